import Derived.Test.YtiflibkabmkloaaFetchTo
import Derived.Test.YtiflibkabmkloaaWorlds
/- Copies of rows of peers. -/
namespace Go.Proofs.Ytiflibkabmkloaa
open Go.RowKit
set_option maxRecDepth 100000 in
set_option maxHeartbeats 2000000 in
theorem toPeerS_any (v : Value) (ps : Prs) (w : World) (hv : RdP w v ps) (hl : ps.length ≤ 1048576) (hf : PsFit 1048576 ps) :
    Calls Try.prog 21 #[v] w fun e w' => ∃ v' qs, e = .returned v' ∧ qs.map Prod.fst = ps ∧ PeersOwn w' w.heap.size v' qs ∧ Below w.heap.size w w' := by
  obtain ⟨i0, hi, hz0, hz1, hz2⟩ := info_parts Try.infoPeer
  obtain ⟨a, ca, rfl, hca⟩ := hv
  have HC := hid hca
  have HF := hid hf
  obtain ⟨M, hM⟩ : ∃ M, M = madeCells (Value.agg #[.int .i64 0, .int .i64 0, .int .i64 0, .string ⟨#[]⟩, .slice none 0 0]).cells (((ps.length : Nat) : Int).toNat * i0.size) := ⟨_, rfl⟩
  have hMs : M.size = ps.length * 5 := by rw [hM, size_madeCells, hz1]; simp
  have hMv : ∀ j, j < ps.length * 5 → ∃ x, M[j]? = some x := fun j hj => ⟨_, Array.getElem?_eq_getElem (by omega)⟩
  have hmk : ∀ W : World, (Instr.makeSlice 34 (.int .i64 (ps.length : Int)) (.int .i64 (ps.length : Int))).run Try.prog W = .ok (.slice (some ⟨W.heap.size, 0, none⟩) ps.length ps.length) (W.alloc (.cells M 60)) := fun W => by
    have h := run_make (P := Try.prog) W 34 60 i0 (.agg #[.int .i64 0, .int .i64 0, .int .i64 0, .string ⟨#[]⟩, .slice none 0 0]) Try.underlying34 hi hz0 .i64 .i64 (ps.length : Int) (ps.length : Int) (by omega) (by omega) (by rw [hz2]; omega) (by omega)
    rw [← hM] at h
    simpa using h
  clear hM hca hf
  have HMV := hid hMv
  clear hMv
  have HO := hid (Blk.new w 60 M)
  have HMS := hid hMs
  go_enter Try.func21, Try.ntmps21
  go_wp2
  go_loopw [4] (fun i' wr => ∃ (i : Nat) (qs : PV), i ≤ ps.length ∧ i' = .int .i64 i ∧ qs.map Prod.fst = ps.take i ∧ Blk wr w.heap.size 60 (cellsQ qs ++ M.toList.drop (i * 5)).toArray ∧ (∀ j, j < qs.length → wr.ownsRow (w.heap.size + 1) 9 1 (qv qs j) (qp qs j).nots.length ((qp qs j).nots.map Value.string)) ∧ (∀ x y, x < qs.length → y < qs.length → x ≠ y → ∀ g, (qv qs x).ownBlock = some g → (qv qs y).ownBlock ≠ some g) ∧ Below w.heap.size w wr ∧ w.heap.size + 1 ≤ wr.heap.size) (fun i' _ => ps.length - (intOf i').toNat)
  case atStart => exact ⟨0, [], Nat.zero_le _, rfl, rfl, by simpa [cellsQ] using HO.out, fun j hj => absurd hj (by simp), fun x y hx => absurd hx (by simp), (Below.refl _ _).alloc (Nat.le_refl _) _, by simp⟩
  case round =>
    obtain ⟨i, qs, hil, rfl, hqs, hr, hnr, hap, hb, hsz⟩ := hrel
    have hql : qs.length = i := by have := congrArg List.length hqs; simp at this; omega
    by_cases hlt : i < ps.length
    · obtain ⟨b, o, vn, rfl, h5⟩ := HC.out i hlt
      have g5 := h5.below hb
      have hfi := HF.out i hlt
      have HQS : Hid (∀ v', (qs ++ [(pat ps i, v')]).map Prod.fst = ps.take (i + 1)) := fun v' => by
        rw [List.map_append, hqs, List.take_succ_eq_append_getElem hlt]
        simp [pat, hlt]
      have HTP := hid fun W h => toPeer_any (pat ps i).lies (pat ps i).wait (pat ps i).last (pat ps i).asked vn (pat ps i).nots W h hfi.nots
      have HSET := hid fun v' => rowQ_set qs M.toList i hql (by simp; omega) (pat ps i) v'
      have HPA : Hid (∀ v' j, qp (qs ++ [(pat ps i, v')]) j = if j < i then qp qs j else if j = i then pat ps i else pr0) := fun v' j => by
        unfold qp
        rw [List.getD_eq_getElem?_getD, List.getElem?_append, hql]
        split
        · next h => rw [List.getD_eq_getElem?_getD]
        · next h =>
          by_cases e : j = i
          · subst e; simp
          · rw [List.getElem?_eq_none (by simp; omega), if_neg e]; rfl
      have HVA : Hid (∀ v' j, qv (qs ++ [(pat ps i, v')]) j = if j < i then qv qs j else if j = i then v' else .slice none 0 0) := fun v' j => by
        unfold qv
        rw [List.getD_eq_getElem?_getD, List.getElem?_append, hql]
        split
        · next h => rw [List.getD_eq_getElem?_getD]
        · next h =>
          by_cases e : j = i
          · subst e; simp
          · rw [List.getElem?_eq_none (by simp; omega), if_neg e]; rfl
      have hg : ∀ j, j < 5 → ∃ x, (cellsQ qs ++ M.toList.drop (i * 5))[i * 5 + j]? = some x := fun j hj => by
        obtain ⟨x, hx⟩ := HMV.out (i * 5 + j) (by omega)
        exact ⟨x, (rowQ_get qs M.toList i j hql).trans (by simpa using hx)⟩
      obtain ⟨z0, hz0'⟩ := hg 0 (by omega)
      obtain ⟨z1, hz1'⟩ := hg 1 (by omega)
      obtain ⟨z2, hz2'⟩ := hg 2 (by omega)
      obtain ⟨z3, hz3'⟩ := hg 3 (by omega)
      obtain ⟨z4, hz4'⟩ := hg 4 (by omega)
      rw [Nat.add_zero] at hz0'
      obtain ⟨x0, x1, x2, x3, x4, x5, x6⟩ := g5
      obtain ⟨a4, c4, hvn, _⟩ := x6.form
      have HX6 := hid x6
      have HNL := hid hfi.nots
      have HR := hid hr
      have HB := hid hb
      have HNR := hid hnr
      have HAP := hid hap
      have HQL := hid hql
      generalize hP : pat ps i = p at *
      obtain ⟨pl, pw, pt, pa, pn⟩ := p
      dsimp only at x1 x2 x3 x4 hvn HTP HSET HX6 HNL
      subst hvn
      generalize hcs : cellsQ qs ++ M.toList.drop (i * 5) = cs at *
      have HZ := hid (show cs[i * 5]? = some z0 ∧ cs[i * 5 + 1]? = some z1 ∧ cs[i * 5 + 2]? = some z2 ∧ cs[i * 5 + 3]? = some z3 ∧ cs[i * 5 + 4]? = some z4 from ⟨hz0', hz1', hz2', hz3', hz4'⟩)
      clear h5 x6 hr hb hnr hap hfi hg hz0' hz1' hz2' hz3' hz4' hP hcs hqs hql
      go_wp2_with fail
      refine (HTP.out _ HX6.out).mono ?_
      rintro e w1 ⟨v1, rfl, ho1, hb1⟩
      obtain ⟨a1, c1, rfl, _⟩ := row_form ho1
      have R0 := HR.out.below hb1
      have B1 := HB.out.trans (hb1.mono HB.out.size)
      have hs1 := hb1.size
      obtain ⟨y0, y1, y2, y3, y4⟩ := HZ.out
      have e0 : w1.cell? ⟨w.heap.size, i * 5, none⟩ = some z0 := (R0.cell (i * 5)).trans (by simpa using y0)
      have f0 := R0.fz (i * 5)
      have R1 := R0.set (i * 5) (.int .i64 pl)
      have e1 : (w1.setCell ⟨w.heap.size, i * 5, none⟩ (.int .i64 pl)).cell? ⟨w.heap.size, i * 5 + 1, none⟩ = some z1 := (R1.cell (i * 5 + 1)).trans (by rw [List.setIfInBounds_toArray, List.getElem?_toArray, List.getElem?_set_ne (by omega)]; exact y1)
      have f1 := R1.fz (i * 5 + 1)
      have R2 := R1.set (i * 5 + 1) (.int .i64 pw)
      have e2 : ((w1.setCell ⟨w.heap.size, i * 5, none⟩ (.int .i64 pl)).setCell ⟨w.heap.size, i * 5 + 1, none⟩ (.int .i64 pw)).cell? ⟨w.heap.size, i * 5 + 2, none⟩ = some z2 := (R2.cell (i * 5 + 2)).trans (by rw [List.setIfInBounds_toArray, List.setIfInBounds_toArray, List.getElem?_toArray, List.getElem?_set_ne (by omega), List.getElem?_set_ne (by omega)]; exact y2)
      have f2 := R2.fz (i * 5 + 2)
      have R3 := R2.set (i * 5 + 2) (.int .i64 pt)
      have e3 : (((w1.setCell ⟨w.heap.size, i * 5, none⟩ (.int .i64 pl)).setCell ⟨w.heap.size, i * 5 + 1, none⟩ (.int .i64 pw)).setCell ⟨w.heap.size, i * 5 + 2, none⟩ (.int .i64 pt)).cell? ⟨w.heap.size, i * 5 + 3, none⟩ = some z3 := (R3.cell (i * 5 + 3)).trans (by rw [List.setIfInBounds_toArray, List.setIfInBounds_toArray, List.setIfInBounds_toArray, List.getElem?_toArray, List.getElem?_set_ne (by omega), List.getElem?_set_ne (by omega), List.getElem?_set_ne (by omega)]; exact y3)
      have f3 := R3.fz (i * 5 + 3)
      have R4 := R3.set (i * 5 + 3) (.string pa)
      have e4 : ((((w1.setCell ⟨w.heap.size, i * 5, none⟩ (.int .i64 pl)).setCell ⟨w.heap.size, i * 5 + 1, none⟩ (.int .i64 pw)).setCell ⟨w.heap.size, i * 5 + 2, none⟩ (.int .i64 pt)).setCell ⟨w.heap.size, i * 5 + 3, none⟩ (.string pa)).cell? ⟨w.heap.size, i * 5 + 4, none⟩ = some z4 := (R4.cell (i * 5 + 4)).trans (by rw [List.setIfInBounds_toArray, List.setIfInBounds_toArray, List.setIfInBounds_toArray, List.setIfInBounds_toArray, List.getElem?_toArray, List.getElem?_set_ne (by omega), List.getElem?_set_ne (by omega), List.getElem?_set_ne (by omega), List.getElem?_set_ne (by omega)]; exact y4)
      have f4 := R4.fz (i * 5 + 4)
      have R5 := R4.set (i * 5 + 4) (.slice a1 pn.length c1)
      rw [List.setIfInBounds_toArray, List.setIfInBounds_toArray, List.setIfInBounds_toArray, List.setIfInBounds_toArray, List.setIfInBounds_toArray] at R5
      have hset := HSET.out (.slice a1 pn.length c1)
      rw [hset] at R5
      have HR5 := hid R5
      have G5 := grown_same (grown_same (grown_same (grown_same (grownBy_setCellAt w1 w.heap.size (i * 5) (.int .i64 pl)) (grownBy_setCellAt _ w.heap.size (i * 5 + 1) (.int .i64 pw))) (grownBy_setCellAt _ w.heap.size (i * 5 + 2) (.int .i64 pt))) (grownBy_setCellAt _ w.heap.size (i * 5 + 3) (.string pa))) (grownBy_setCellAt _ w.heap.size (i * 5 + 4) (.slice a1 pn.length c1))
      have HG5 := hid G5
      have HO1 := hid ho1
      have HB1 := hid B1
      have HBB1 := hid hb1
      clear R0 R1 R2 R3 R4 R5 G5 ho1 B1 hb1 y0 y1 y2 y3 y4 hset
      go_wp2
      have hsg := HG5.out.size
      refine ⟨⟨i + 1, qs ++ [(⟨pl, pw, pt, pa, pn⟩, .slice a1 pn.length c1)], by omega, by go_num, HQS.out _, HR5.out, fun j hj => ?_, fun x y hx hy hxy g => ?_, HB1.out.grown HG5.out (by omega) (fun g e => by cases e; exact Nat.le_refl _), by omega⟩, by simp [intOf]; omega⟩
      · have hj' : j < i + 1 := by rw [List.length_append, HQL.out] at hj; simpa using hj
        rw [HPA.out, HVA.out]
        by_cases hji : j < i
        · rw [if_pos hji, if_pos hji]
          have h0 := HNR.out j (by rw [HQL.out]; exact hji)
          exact row_kept (Below.row HBB1.out h0) HG5.out (by omega)
        · obtain rfl : j = i := by omega
          rw [if_neg hji, if_neg hji, if_pos rfl, if_pos rfl]
          exact row_kept (ownsRow_base HO1.out (by omega)) HG5.out (by omega)
      · have hx' : x < i + 1 := by rw [List.length_append, HQL.out] at hx; simpa using hx
        have hy' : y < i + 1 := by rw [List.length_append, HQL.out] at hy; simpa using hy
        rw [HVA.out, HVA.out]
        intro h1 h2
        by_cases hxi : x < i
        · rw [if_pos hxi] at h1
          by_cases hyi : y < i
          · rw [if_pos hyi] at h2
            exact HAP.out x y (by rw [HQL.out]; exact hxi) (by rw [HQL.out]; exact hyi) hxy g h1 h2
          · rw [if_neg hyi, if_pos (by omega)] at h2
            have k1 := (HNR.out x (by rw [HQL.out]; exact hxi)).lt g h1
            have k2 := HO1.out.lt g h2
            omega
        · rw [if_neg hxi, if_pos (by omega)] at h1
          have hyi : y < i := by omega
          rw [if_pos hyi] at h2
          have k1 := (HNR.out y (by rw [HQL.out]; exact hyi)).lt g h2
          have k2 := HO1.out.lt g h1
          omega
    · obtain rfl : i = ps.length := by omega
      have e : cellsQ qs ++ M.toList.drop (ps.length * 5) = cellsQ qs := by rw [List.drop_of_length_le (by simp; omega)]; simp
      rw [e] at hr
      rw [List.take_length] at hqs
      have HR := hid hr
      have HQS := hid hqs
      have HNR := hid hnr
      have HAP := hid hap
      have HB := hid hb
      clear hr hqs hnr hap hb
      go_wp2
      go_ret
      have hcl := cellsQ_len qs
      refine ⟨_, qs, rfl, HQS.out, ⟨?_, fun i hi => ownsRow_base (HNR.out i hi) (by omega), fun j hj g hg he => ?_, HAP.out⟩, HB.out⟩
      · rw [← hql]
        exact ⟨hcl, .inr ⟨w.heap.size, qs.length, (cellsQ qs).toArray, rfl, Nat.le_refl _, HR.out, Nat.le_refl _, by unfold maxLen; omega, by simp [hcl], by show List.take (qs.length * 5) (cellsQ qs).toArray.toList = _; rw [← hcl, List.toList_toArray, List.take_length]⟩⟩
      · have k1 := ((HNR.out j hj).lt g hg).1
        have k2 : w.heap.size = g := Option.some.inj he
        omega
end Go.Proofs.Ytiflibkabmkloaa
/- Copies of fetches. -/
namespace Go.Proofs.Ytiflibkabmkloaa
open Go.RowKit
set_option maxRecDepth 100000 in
set_option maxHeartbeats 2000000 in
theorem toFetch_any (nm : ByteArray) (now : Int) (full : Bool) (wd room : Int) (vi vp vq : Value) (its : Itms) (ts : List ByteArray) (ps : Prs) (w : World) (hi : RdI w vi its) (hp : Reads w vp ts) (hq : RdP w vq ps) (hli : its.length ≤ 1048576) (hlp : ts.length ≤ 1048576) (hlq : ps.length ≤ 1048576) (hf : PsFit 1048576 ps) :
    Calls Try.prog 7 #[fval nm now full wd room vi vp vq] w fun e w' => ∃ vi' vp' vq' qs, e = .returned (fval nm now full wd room vi' vp' vq') ∧ qs.map Prod.fst = ps ∧ FetchOwn w' (w.heap.size + 3) vi' vp' vq' its ts qs ∧ OwnI w' (w.heap.size + 3) vi' its ∧ Below w.heap.size w w' := by
  have hN1 := ((Blk.new w 28 (fcells nm now full wd room vi vp vq)).alloc (.cells #[.string ⟨#[]⟩, .int .i64 0, .bool false, .int .i64 0, .int .i64 0, .slice none 0 0, .slice none 0 0, .slice none 0 0] 36)).alloc (.cells #[.string nm, .int .i64 now, .bool full, .int .i64 0, .int .i64 0, .slice none 0 0, .slice none 0 0, .slice none 0 0] 36)
  have hN2 := (Blk.new (w.alloc (.cells (fcells nm now full wd room vi vp vq) 28)) 36 #[.string ⟨#[]⟩, .int .i64 0, .bool false, .int .i64 0, .int .i64 0, .slice none 0 0, .slice none 0 0, .slice none 0 0]).alloc (.cells #[.string nm, .int .i64 now, .bool full, .int .i64 0, .int .i64 0, .slice none 0 0, .slice none 0 0, .slice none 0 0] 36)
  have hN3 := Blk.new ((w.alloc (.cells (fcells nm now full wd room vi vp vq) 28)).alloc (.cells #[.string ⟨#[]⟩, .int .i64 0, .bool false, .int .i64 0, .int .i64 0, .slice none 0 0, .slice none 0 0, .slice none 0 0] 36)) 36 #[.string nm, .int .i64 now, .bool full, .int .i64 0, .int .i64 0, .slice none 0 0, .slice none 0 0, .slice none 0 0]
  rw [World.size_alloc] at hN2
  rw [World.size_alloc, World.size_alloc] at hN3
  have hA := (((Below.refl w.heap.size w).alloc (Nat.le_refl _) (.cells (fcells nm now full wd room vi vp vq) 28)).alloc (by simp) (.cells #[.string ⟨#[]⟩, .int .i64 0, .bool false, .int .i64 0, .int .i64 0, .slice none 0 0, .slice none 0 0, .slice none 0 0] 36)).alloc (by simp; omega) (.cells #[.string nm, .int .i64 now, .bool full, .int .i64 0, .int .i64 0, .slice none 0 0, .slice none 0 0, .slice none 0 0] 36)
  have HT := hid (toStore2_any wd room vi vp its ts _ (hi.below hA) (hp.below hA) hli hlp)
  have HTP := hid fun W h => toPeerS_any vq ps W h hlq hf
  have HQ := hid hq
  obtain ⟨ai, ci, rfl, _⟩ := hi
  obtain ⟨ap, cp, rfl, _⟩ := hp.form
  obtain ⟨aq, cq, rfl, _⟩ := hq
  have HN1 := hid hN1
  have HN2 := hid hN2
  have HN3 := hid hN3
  have HA := hid hA
  clear hp hA hN1 hN2 hN3 hf
  go_enter Try.func7, Try.ntmps7
  go_wp2_with fail
  refine HT.out.mono ?_
  rintro e w1 ⟨v1, p1, rfl, oi1, op1, hap1, hb1⟩
  have N1 := HN1.out.below hb1
  have N2 := HN2.out.below hb1
  have N3 := HN3.out.below hb1
  have B1 := HA.out.trans (hb1.mono (by simp; omega))
  rw [World.size_alloc, World.size_alloc, World.size_alloc] at oi1 op1
  have hs1 := hb1.size
  rw [World.size_alloc, World.size_alloc, World.size_alloc] at hs1
  have so1 : StoreOwn w1 (w.heap.size + 1 + 1 + 1) v1 p1 its ts := ⟨oi1.row hli, op1, hap1⟩
  have HOI1 := hid oi1
  obtain ⟨a1, c1, rfl⟩ := row_any so1.items
  obtain ⟨b1, d1, rfl⟩ := row_any so1.pins
  have K1 : Blk (w1.setCell ⟨w.heap.size + 1 + 1, 3, none⟩ (.int .i64 wd)) (w.heap.size + 1 + 1) 36 #[.string nm, .int .i64 now, .bool full, .int .i64 wd, .int .i64 0, .slice none 0 0, .slice none 0 0, .slice none 0 0] := N3.set 3 (.int .i64 wd)
  have K2 : Blk ((w1.setCell ⟨w.heap.size + 1 + 1, 3, none⟩ (.int .i64 wd)).setCell ⟨w.heap.size + 1 + 1, 4, none⟩ (.int .i64 room)) (w.heap.size + 1 + 1) 36 #[.string nm, .int .i64 now, .bool full, .int .i64 wd, .int .i64 room, .slice none 0 0, .slice none 0 0, .slice none 0 0] := K1.set 4 (.int .i64 room)
  have K3 : Blk (((w1.setCell ⟨w.heap.size + 1 + 1, 3, none⟩ (.int .i64 wd)).setCell ⟨w.heap.size + 1 + 1, 4, none⟩ (.int .i64 room)).setCell ⟨w.heap.size + 1 + 1, 5, none⟩ (.slice a1 its.length c1)) (w.heap.size + 1 + 1) 36 #[.string nm, .int .i64 now, .bool full, .int .i64 wd, .int .i64 room, .slice a1 its.length c1, .slice none 0 0, .slice none 0 0] := K2.set 5 (.slice a1 its.length c1)
  have K4 : Blk ((((w1.setCell ⟨w.heap.size + 1 + 1, 3, none⟩ (.int .i64 wd)).setCell ⟨w.heap.size + 1 + 1, 4, none⟩ (.int .i64 room)).setCell ⟨w.heap.size + 1 + 1, 5, none⟩ (.slice a1 its.length c1)).setCell ⟨w.heap.size + 1 + 1, 6, none⟩ (.slice b1 ts.length d1)) (w.heap.size + 1 + 1) 36 #[.string nm, .int .i64 now, .bool full, .int .i64 wd, .int .i64 room, .slice a1 its.length c1, .slice b1 ts.length d1, .slice none 0 0] := K3.set 6 (.slice b1 ts.length d1)
  have u0 : w1.cell? ⟨w.heap.size + 1 + 1, 3, none⟩ = some (.int .i64 0) := N3.cell 3
  have r0 : w1.frozen? ⟨w.heap.size + 1 + 1, 3, none⟩ = false := N3.fz 3
  have u1 : (w1.setCell ⟨w.heap.size + 1 + 1, 3, none⟩ (.int .i64 wd)).cell? ⟨w.heap.size + 1 + 1, 4, none⟩ = some (.int .i64 0) := K1.cell 4
  have r1 : (w1.setCell ⟨w.heap.size + 1 + 1, 3, none⟩ (.int .i64 wd)).frozen? ⟨w.heap.size + 1 + 1, 4, none⟩ = false := K1.fz 4
  have u2 : ((w1.setCell ⟨w.heap.size + 1 + 1, 3, none⟩ (.int .i64 wd)).setCell ⟨w.heap.size + 1 + 1, 4, none⟩ (.int .i64 room)).cell? ⟨w.heap.size + 1 + 1, 5, none⟩ = some (.slice none 0 0) := K2.cell 5
  have r2 : ((w1.setCell ⟨w.heap.size + 1 + 1, 3, none⟩ (.int .i64 wd)).setCell ⟨w.heap.size + 1 + 1, 4, none⟩ (.int .i64 room)).frozen? ⟨w.heap.size + 1 + 1, 5, none⟩ = false := K2.fz 5
  have u3 : (((w1.setCell ⟨w.heap.size + 1 + 1, 3, none⟩ (.int .i64 wd)).setCell ⟨w.heap.size + 1 + 1, 4, none⟩ (.int .i64 room)).setCell ⟨w.heap.size + 1 + 1, 5, none⟩ (.slice a1 its.length c1)).cell? ⟨w.heap.size + 1 + 1, 6, none⟩ = some (.slice none 0 0) := K3.cell 6
  have r3 : (((w1.setCell ⟨w.heap.size + 1 + 1, 3, none⟩ (.int .i64 wd)).setCell ⟨w.heap.size + 1 + 1, 4, none⟩ (.int .i64 room)).setCell ⟨w.heap.size + 1 + 1, 5, none⟩ (.slice a1 its.length c1)).frozen? ⟨w.heap.size + 1 + 1, 6, none⟩ = false := K3.fz 6
  have G4 := grown_same (grown_same (grown_same (grownBy_setCellAt w1 (w.heap.size + 1 + 1) 3 (.int .i64 wd)) (grownBy_setCellAt _ (w.heap.size + 1 + 1) 4 (.int .i64 room))) (grownBy_setCellAt _ (w.heap.size + 1 + 1) 5 (.slice a1 its.length c1))) (grownBy_setCellAt _ (w.heap.size + 1 + 1) 6 (.slice b1 ts.length d1))
  have hne1 : w.heap.size ≠ w.heap.size + 1 + 1 := by omega
  have hne2 : w.heap.size + 1 ≠ w.heap.size + 1 + 1 := by omega
  have M1 := N1.kept G4 (fun e => hne1 (Option.some.inj e))
  have M2 := N2.kept G4 (fun e => hne2 (Option.some.inj e))
  have MB := B1.grown G4 (by omega) (fun g e => by cases e; omega)
  have MS := so1.kept G4 (by omega)
  have y7 : ((((w1.setCell ⟨w.heap.size + 1 + 1, 3, none⟩ (.int .i64 wd)).setCell ⟨w.heap.size + 1 + 1, 4, none⟩ (.int .i64 room)).setCell ⟨w.heap.size + 1 + 1, 5, none⟩ (.slice a1 its.length c1)).setCell ⟨w.heap.size + 1 + 1, 6, none⟩ (.slice b1 ts.length d1)).cell? ⟨w.heap.size, 7, none⟩ = some (.slice aq ps.length cq) := M1.cell 7
  have hs4 := G4.size
  have HK4 := hid K4
  have HM2 := hid M2
  have HMB := hid MB
  have HMS := hid MS
  have HG4 := hid G4
  have HLI := hid fun g (e : (Value.slice a1 its.length c1).ownBlock = some g) => so1.items.lt g e
  have HLP := hid fun g (e : (Value.slice b1 ts.length d1).ownBlock = some g) => so1.pins.lt g e
  have HTP4 := hid (HTP.out _ (HQ.out.below MB))
  clear K1 K2 K3 K4 M1 M2 MB MS N1 N2 N3 B1 so1 oi1 op1 hap1 hb1 G4 HTP
  go_wp2_with fail
  obtain ⟨w4, hw4⟩ : ∃ w4, w4 = ((((w1.setCell ⟨w.heap.size + 1 + 1, 3, none⟩ (.int .i64 wd)).setCell ⟨w.heap.size + 1 + 1, 4, none⟩ (.int .i64 room)).setCell ⟨w.heap.size + 1 + 1, 5, none⟩ (.slice a1 its.length c1)).setCell ⟨w.heap.size + 1 + 1, 6, none⟩ (.slice b1 ts.length d1)) := ⟨_, rfl⟩
  rw [← hw4] at HK4 HM2 HMB HMS HG4 HTP4 hs4 ⊢
  clear u0 u1 u2 u3 r0 r1 r2 r3 y7 hw4
  refine HTP4.out.mono ?_
  rintro e w5 ⟨v5, qs, rfl, hqs, po5, hb5⟩
  obtain ⟨a5, c5, rfl⟩ := row_any po5.row
  have hql : qs.length = ps.length := by rw [← hqs, List.length_map]
  have HQS := hid hqs
  rw [hql] at po5
  rw [hql]
  have K5 := HK4.out.below hb5
  have M5 := HM2.out.below hb5
  have B5 := HMB.out.trans (hb5.mono HMB.out.size)
  have S5 := HMS.out.below hb5
  have x7 : w5.cell? ⟨w.heap.size + 1 + 1, 7, none⟩ = some (.slice none 0 0) := K5.cell 7
  have x8 := K5.fz 7
  have K6 : Blk (w5.setCell ⟨w.heap.size + 1 + 1, 7, none⟩ (.slice a5 ps.length c5)) (w.heap.size + 1 + 1) 36 #[.string nm, .int .i64 now, .bool full, .int .i64 wd, .int .i64 room, .slice a1 its.length c1, .slice b1 ts.length d1, .slice a5 ps.length c5] := K5.set 7 (.slice a5 ps.length c5)
  have g6 := grownBy_setCellAt w5 (w.heap.size + 1 + 1) 7 (.slice a5 ps.length c5)
  have M6 := M5.kept g6 (fun e => hne2 (Option.some.inj e))
  have B6 := B5.setCell (p := ⟨w.heap.size + 1 + 1, 7, none⟩) (by simp; omega) (.slice a5 ps.length c5)
  have l0 : (w5.setCell ⟨w.heap.size + 1 + 1, 7, none⟩ (.slice a5 ps.length c5)).cell? ⟨w.heap.size + 1 + 1, 0, none⟩ = some (.string nm) := K6.cell 0
  have l1 : (w5.setCell ⟨w.heap.size + 1 + 1, 7, none⟩ (.slice a5 ps.length c5)).cell? ⟨w.heap.size + 1 + 1, 1, none⟩ = some (.int .i64 now) := K6.cell 1
  have l2 : (w5.setCell ⟨w.heap.size + 1 + 1, 7, none⟩ (.slice a5 ps.length c5)).cell? ⟨w.heap.size + 1 + 1, 2, none⟩ = some (.bool full) := K6.cell 2
  have l3 : (w5.setCell ⟨w.heap.size + 1 + 1, 7, none⟩ (.slice a5 ps.length c5)).cell? ⟨w.heap.size + 1 + 1, 3, none⟩ = some (.int .i64 wd) := K6.cell 3
  have l4 : (w5.setCell ⟨w.heap.size + 1 + 1, 7, none⟩ (.slice a5 ps.length c5)).cell? ⟨w.heap.size + 1 + 1, 4, none⟩ = some (.int .i64 room) := K6.cell 4
  have l5 : (w5.setCell ⟨w.heap.size + 1 + 1, 7, none⟩ (.slice a5 ps.length c5)).cell? ⟨w.heap.size + 1 + 1, 5, none⟩ = some (.slice a1 its.length c1) := K6.cell 5
  have l6 : (w5.setCell ⟨w.heap.size + 1 + 1, 7, none⟩ (.slice a5 ps.length c5)).cell? ⟨w.heap.size + 1 + 1, 6, none⟩ = some (.slice b1 ts.length d1) := K6.cell 6
  have l7 : (w5.setCell ⟨w.heap.size + 1 + 1, 7, none⟩ (.slice a5 ps.length c5)).cell? ⟨w.heap.size + 1 + 1, 7, none⟩ = some (.slice a5 ps.length c5) := K6.cell 7
  obtain ⟨q0, k0, q1, k1, q2, k2, q3, k3, q4, k4, q5, k5, q6, k6, q7, k7⟩ := M6.store8 (.string nm) (.int .i64 now) (.bool full) (.int .i64 wd) (.int .i64 room) (.slice a1 its.length c1) (.slice b1 ts.length d1) (.slice a5 ps.length c5)
  have Z := hid (M6.set8 (.string nm) (.int .i64 now) (.bool full) (.int .i64 wd) (.int .i64 room) (.slice a1 its.length c1) (.slice b1 ts.length d1) (.slice a5 ps.length c5))
  have g8 := grown_set8 (w5.setCell ⟨w.heap.size + 1 + 1, 7, none⟩ (.slice a5 ps.length c5)) (w.heap.size + 1) (.string nm) (.int .i64 now) (.bool full) (.int .i64 wd) (.int .i64 room) (.slice a1 its.length c1) (.slice b1 ts.length d1) (.slice a5 ps.length c5)
  have BB := hid (below_set8 B6 (b := w.heap.size + 1) (by omega) (Nat.le_refl _) (.string nm) (.int .i64 now) (.bool full) (.int .i64 wd) (.int .i64 room) (.slice a1 its.length c1) (.slice b1 ts.length d1) (.slice a5 ps.length c5))
  have S8 := (S5.kept g6 (by omega)).kept g8 (by omega)
  have hs5 := hb5.size
  have P8 := ((po5.kept g6 (by omega)).kept g8 (by omega)).base (show w.heap.size + 3 ≤ _ by omega)
  have hpl := po5.lt
  have FO : Hid (FetchOwn (set8 (w5.setCell ⟨w.heap.size + 1 + 1, 7, none⟩ (.slice a5 ps.length c5)) (w.heap.size + 1) (.string nm) (.int .i64 now) (.bool full) (.int .i64 wd) (.int .i64 room) (.slice a1 its.length c1) (.slice b1 ts.length d1) (.slice a5 ps.length c5)) (w.heap.size + 3) (.slice a1 its.length c1) (.slice b1 ts.length d1) (.slice a5 ps.length c5) its ts qs) :=
    ⟨S8.base (by omega), P8, fun g e h => by have h1 := (HLI.out g e).2; have h2 := (hpl g h).1; omega, fun g e h => by have h1 := (HLP.out g e).2; have h2 := (hpl g h).1; omega⟩
  have OI : Hid (OwnI (set8 (w5.setCell ⟨w.heap.size + 1 + 1, 7, none⟩ (.slice a5 ps.length c5)) (w.heap.size + 1) (.string nm) (.int .i64 now) (.bool full) (.int .i64 wd) (.int .i64 room) (.slice a1 its.length c1) (.slice b1 ts.length d1) (.slice a5 ps.length c5)) (w.heap.size + 3) (.slice a1 its.length c1) its) := by
    obtain ⟨g, e, hg, hG⟩ := HOI1.out
    have hgl := hG.lt
    have h4 := (hG.kept HG4.out (fun e => by have := Option.some.inj e; omega)).below hb5
    exact ⟨g, e, by omega, (h4.kept g6 (fun e => by have := Option.some.inj e; omega)).kept g8 (fun e => by have := Option.some.inj e; omega)⟩
  clear K5 K6 M5 M6 B5 B6 S5 S8 P8 po5 hb5 g6 g8 hpl hqs
  go_wp2
  rw [set8_def]
  refine bodyPost_ret (v := fval nm now full wd room (.slice a1 its.length c1) (.slice b1 ts.length d1) (.slice a5 ps.length c5)) (by simp [results, Try.results7, go_sem, Z.out.cell]) rfl ⟨_, _, _, qs, rfl, HQS.out, FO.out, OI.out, BB.out⟩
end Go.Proofs.Ytiflibkabmkloaa
/- Copies of rows of booleans, of messages and of stores, in rows of their own. -/
namespace Go.Proofs.Ytiflibkabmkloaa
open Go.RowKit
theorem Try.infoBool : (Try.prog.info? 4).map (fun i => (i.zero, i.size, i.bytes)) = some (some (.bool false), 1, 1) := by kernel_rfl
theorem Try.infoMsg : (Try.prog.info? 72).map (fun i => (i.zero, i.size, i.bytes)) = some (some (.agg #[.int .i64 0, .int .i64 0, .string ⟨#[]⟩, .bool false, .string ⟨#[]⟩]), 5, 56) := by kernel_rfl
theorem Try.infoStore : (Try.prog.info? 33).map (fun i => (i.zero, i.size, i.bytes)) = some (some (.agg #[.int .i64 0, .int .i64 0, .slice none 0 0, .slice none 0 0]), 4, 64) := by kernel_rfl
/-- A row of booleans of its own. -/
def OwnB (w : World) (base : Nat) (v : Value) (bs : List Bool) : Prop :=
  ∃ g cs, v = .slice (some ⟨g, 0, none⟩) bs.length bs.length ∧ base ≤ g ∧ Blk w g 4 cs ∧ cs.size = bs.length ∧ ∀ j, j < bs.length → cs[j]? = some (.bool (bs.getD j false))
theorem OwnB.below {w w' : World} {base : Nat} {v : Value} {bs : List Bool} (h : OwnB w base v bs) (hb : Below w.heap.size w w') : OwnB w' base v bs := by
  obtain ⟨g, cs, e, hg, hk, hz, hc⟩ := h
  exact ⟨g, cs, e, hg, hk.below hb, hz, hc⟩
theorem OwnB.kept {w w' : World} {base k : Nat} {v : Value} {bs : List Bool} (h : OwnB w base v bs) (hg : w.grownBy w' (some k)) (hk : k < base) : OwnB w' base v bs := by
  obtain ⟨g, cs, e, hb, hB, hz, hc⟩ := h
  exact ⟨g, cs, e, hb, hB.kept hg (fun e => by have := Option.some.inj e; omega), hz, hc⟩
theorem OwnB.rdb {w : World} {base : Nat} {v : Value} {bs : List Bool} (h : OwnB w base v bs) : RdB w v bs := by
  obtain ⟨g, cs, e, hg, hk, hz, hc⟩ := h
  exact ⟨_, _, e, fun i hi => ⟨g, 0, rfl, hk.lt, by rw [Nat.zero_add, hk.cell]; exact hc i hi⟩⟩
structure Arr5 (cs : Array Value) (o : Nat) (p : Mg) : Prop where
  c0 : cs[o]? = some (.int .i64 p.fr)
  c1 : cs[o + 1]? = some (.int .i64 p.to)
  c2 : cs[o + 2]? = some (.string p.sum)
  c3 : cs[o + 3]? = some (.bool p.has)
  c4 : cs[o + 4]? = some (.string p.text)
/-- A row of messages of its own. -/
def OwnM (w : World) (base : Nat) (v : Value) (ms : Mgs) : Prop :=
  ∃ g cs, v = .slice (some ⟨g, 0, none⟩) ms.length ms.length ∧ base ≤ g ∧ Blk w g 72 cs ∧ cs.size = ms.length * 5 ∧ ∀ j, j < ms.length → Arr5 cs (j * 5) (mat ms j)
theorem OwnM.below {w w' : World} {base : Nat} {v : Value} {ms : Mgs} (h : OwnM w base v ms) (hb : Below w.heap.size w w') : OwnM w' base v ms := by
  obtain ⟨g, cs, e, hg, hk, hz, hc⟩ := h
  exact ⟨g, cs, e, hg, hk.below hb, hz, hc⟩
theorem OwnM.kept {w w' : World} {base k : Nat} {v : Value} {ms : Mgs} (h : OwnM w base v ms) (hg : w.grownBy w' (some k)) (hk : k < base) : OwnM w' base v ms := by
  obtain ⟨g, cs, e, hb, hB, hz, hc⟩ := h
  exact ⟨g, cs, e, hb, hB.kept hg (fun e => by have := Option.some.inj e; omega), hz, hc⟩
theorem OwnM.rdm {w : World} {base : Nat} {v : Value} {ms : Mgs} (h : OwnM w base v ms) : RdM w v ms := by
  obtain ⟨g, cs, e, hg, hk, hz, hc⟩ := h
  refine ⟨_, _, e, fun i hi => ⟨g, 0, rfl, hk.lt, ?_, ?_, ?_, ?_, ?_⟩⟩
  · rw [Nat.zero_add, hk.cell]; exact (hc i hi).c0
  · rw [Nat.zero_add, hk.cell]; exact (hc i hi).c1
  · rw [Nat.zero_add, hk.cell]; exact (hc i hi).c2
  · rw [Nat.zero_add, hk.cell]; exact (hc i hi).c3
  · rw [Nat.zero_add, hk.cell]; exact (hc i hi).c4
structure Arr4 (w : World) (B : Nat) (cs : Array Value) (o : Nat) (vi vp : Value) (p : Sr) : Prop where
  c0 : cs[o]? = some (.int .i64 p.wd)
  c1 : cs[o + 1]? = some (.int .i64 p.room)
  c2 : cs[o + 2]? = some vi
  c3 : cs[o + 3]? = some vp
  oi : OwnI w B vi p.its
  op : w.ownsRow B 9 1 vp p.ts.length (p.ts.map Value.string)
theorem OwnI.kept {w w' : World} {base k : Nat} {v : Value} {its : Itms} (h : OwnI w base v its) (hg : w.grownBy w' (some k)) (hk : k < base) : OwnI w' base v its := by
  obtain ⟨g, e, hb, hB⟩ := h
  exact ⟨g, e, hb, hB.kept hg (fun e => by have := Option.some.inj e; omega)⟩
theorem Arr4.below {w w' : World} {B : Nat} {cs : Array Value} {o : Nat} {vi vp : Value} {p : Sr} (h : Arr4 w B cs o vi vp p) (hb : Below w.heap.size w w') : Arr4 w' B cs o vi vp p := ⟨h.c0, h.c1, h.c2, h.c3, h.oi.below hb, Below.row hb h.op⟩
theorem Arr4.kept {w w' : World} {B k : Nat} {cs : Array Value} {o : Nat} {vi vp : Value} {p : Sr} (h : Arr4 w B cs o vi vp p) (hg : w.grownBy w' (some k)) (hk : k < B) : Arr4 w' B cs o vi vp p := ⟨h.c0, h.c1, h.c2, h.c3, h.oi.kept hg hk, row_kept h.op hg hk⟩
/-- A row of stores of its own. -/
def OwnS (w : World) (base : Nat) (v : Value) (ss : Srs) : Prop :=
  ∃ g cs, v = .slice (some ⟨g, 0, none⟩) ss.length ss.length ∧ base ≤ g ∧ Blk w g 33 cs ∧ cs.size = ss.length * 4 ∧ ∀ j, j < ss.length → ∃ vi vp, Arr4 w (g + 1) cs (j * 4) vi vp (sat ss j)
theorem OwnS.below {w w' : World} {base : Nat} {v : Value} {ss : Srs} (h : OwnS w base v ss) (hb : Below w.heap.size w w') : OwnS w' base v ss := by
  obtain ⟨g, cs, e, hg, hk, hz, hc⟩ := h
  refine ⟨g, cs, e, hg, hk.below hb, hz, fun j hj => ?_⟩
  obtain ⟨vi, vp, h4⟩ := hc j hj
  exact ⟨vi, vp, h4.below hb⟩
theorem OwnS.kept {w w' : World} {base k : Nat} {v : Value} {ss : Srs} (h : OwnS w base v ss) (hg : w.grownBy w' (some k)) (hk : k < base) : OwnS w' base v ss := by
  obtain ⟨g, cs, e, hb, hB, hz, hc⟩ := h
  refine ⟨g, cs, e, hb, hB.kept hg (fun e => by have := Option.some.inj e; omega), hz, fun j hj => ?_⟩
  obtain ⟨vi, vp, h4⟩ := hc j hj
  exact ⟨vi, vp, h4.kept hg (by omega)⟩
theorem OwnS.rds {w : World} {base : Nat} {v : Value} {ss : Srs} (h : OwnS w base v ss) : RdS w v ss := by
  obtain ⟨g, cs, e, hg, hk, hz, hc⟩ := h
  refine ⟨_, _, e, fun i hi => ?_⟩
  obtain ⟨vi, vp, h4⟩ := hc i hi
  refine ⟨g, 0, vi, vp, rfl, hk.lt, ?_, ?_, ?_, ?_, h4.oi.rdi, Reads.of_row h4.op⟩
  · rw [Nat.zero_add, hk.cell]; exact h4.c0
  · rw [Nat.zero_add, hk.cell]; exact h4.c1
  · rw [Nat.zero_add, hk.cell]; exact h4.c2
  · rw [Nat.zero_add, hk.cell]; exact h4.c3
theorem arr5 (cs : Array Value) (o : Nat) (d0 d1 d2 d3 d4 : Value) (h : o + 5 ≤ cs.size) (j : Nat) : (((((cs.setIfInBounds (o) d0).setIfInBounds (o + 1) d1).setIfInBounds (o + 2) d2).setIfInBounds (o + 3) d3).setIfInBounds (o + 4) d4)[j]? = (if o + 4 = j then some d4 else (if o + 3 = j then some d3 else (if o + 2 = j then some d2 else (if o + 1 = j then some d1 else (if o = j then some d0 else cs[j]?))))) := by
  simp only [Array.getElem?_setIfInBounds, Array.size_setIfInBounds, show o < cs.size from by omega, show o + 1 < cs.size from by omega, show o + 2 < cs.size from by omega, show o + 3 < cs.size from by omega, show o + 4 < cs.size from by omega, if_true]
theorem arr4 (cs : Array Value) (o : Nat) (d0 d1 d2 d3 : Value) (h : o + 4 ≤ cs.size) (j : Nat) : ((((cs.setIfInBounds (o) d0).setIfInBounds (o + 1) d1).setIfInBounds (o + 2) d2).setIfInBounds (o + 3) d3)[j]? = (if o + 3 = j then some d3 else (if o + 2 = j then some d2 else (if o + 1 = j then some d1 else (if o = j then some d0 else cs[j]?)))) := by
  simp only [Array.getElem?_setIfInBounds, Array.size_setIfInBounds, show o < cs.size from by omega, show o + 1 < cs.size from by omega, show o + 2 < cs.size from by omega, show o + 3 < cs.size from by omega, if_true]
set_option maxRecDepth 100000 in
set_option maxHeartbeats 1000000 in
theorem toBoolS_any (v : Value) (bs : List Bool) (w : World) (hv : RdB w v bs) (hl : bs.length ≤ 1048576) :
    Calls Try.prog 28 #[v] w fun e w' => ∃ v', e = .returned v' ∧ OwnB w' w.heap.size v' bs ∧ Below w.heap.size w w' := by
  obtain ⟨i0, hi, hz0, hz1, hz2⟩ := info_parts Try.infoBool
  obtain ⟨a, ca, rfl, hca⟩ := hv
  have HC := hid hca
  obtain ⟨M, hM⟩ : ∃ M, M = madeCells (Value.bool false).cells (((bs.length : Nat) : Int).toNat * i0.size) := ⟨_, rfl⟩
  have hMs : M.size = bs.length := by rw [hM, size_madeCells, hz1]; simp
  have hmk : ∀ W : World, (Instr.makeSlice 40 (.int .i64 (bs.length : Int)) (.int .i64 (bs.length : Int))).run Try.prog W = .ok (.slice (some ⟨W.heap.size, 0, none⟩) bs.length bs.length) (W.alloc (.cells M 4)) := fun W => by
    have h := run_make (P := Try.prog) W 40 4 i0 (.bool false) Try.underlying40 hi hz0 .i64 .i64 (bs.length : Int) (bs.length : Int) (by omega) (by omega) (by rw [hz2]; omega) (by omega)
    rw [← hM] at h
    simpa using h
  clear hM hca
  have HO := hid (Blk.new w 4 M)
  have HMS := hid hMs
  go_enter Try.func28, Try.ntmps28
  go_wp2
  go_loopw [4] (fun i' wr => ∃ (i : Nat) (cs : Array Value), i ≤ bs.length ∧ i' = .int .i64 i ∧ Blk wr w.heap.size 4 cs ∧ cs.size = bs.length ∧ (∀ j, j < i → cs[j]? = some (.bool (bs.getD j false))) ∧ Below w.heap.size w wr) (fun i' _ => bs.length - (intOf i').toNat)
  case atStart => exact ⟨0, M, Nat.zero_le _, rfl, HO.out, HMS.out, fun j hj => absurd hj (by omega), (Below.refl _ _).alloc (Nat.le_refl _) _⟩
  case round =>
    obtain ⟨i, cs, hil, rfl, hr, hcs, hdone, hb⟩ := hrel
    by_cases hlt : i < bs.length
    · obtain ⟨b, o, rfl, hbw, hc1⟩ := HC.out i hlt
      have hd1 := (hb.cell (p := ⟨b, o + i, none⟩) hbw).trans hc1
      obtain ⟨z, hz⟩ : ∃ z, cs[i]? = some z := ⟨_, Array.getElem?_eq_getElem (by omega)⟩
      have HD : Hid (∀ j, j < i + 1 → (cs.setIfInBounds i (.bool (bs.getD i false)))[j]? = some (.bool (bs.getD j false))) := fun j hj => by
        rw [Array.getElem?_setIfInBounds]
        by_cases e : i = j
        · subst e
          rw [if_pos rfl, if_pos (by omega)]
        · rw [if_neg e]
          exact hdone j (by omega)
      generalize bs.getD i false = t at hd1 HD
      have e1 := (hr.cell i).trans hz
      have e2 := hr.fz i
      have R := hid (hr.set i (.bool t))
      have HB := hid (hb.setCell (p := ⟨w.heap.size, i, none⟩) (Nat.le_refl _) (.bool t))
      have HCS := hid hcs
      clear hc1 hr hb hz hdone hbw hcs
      go_wp2
      exact ⟨⟨i + 1, cs.setIfInBounds i (.bool t), by omega, by go_num, R.out, by rw [Array.size_setIfInBounds]; exact HCS.out, HD.out, HB.out⟩, by simp [intOf]; omega⟩
    · obtain rfl : i = bs.length := by omega
      have HR := hid hr
      have HB := hid hb
      have HD := hid hdone
      clear hr hb hdone
      go_wp2
      go_ret
      exact ⟨_, rfl, ⟨_, cs, rfl, Nat.le_refl _, HR.out, hcs, HD.out⟩, HB.out⟩
set_option maxRecDepth 100000 in
set_option maxHeartbeats 400000 in
theorem toMessage_any (a b : Int) (s : ByteArray) (h : Bool) (x : ByteArray) (w : World) :
    Calls Try.prog 54 #[.agg #[.int .i64 a, .int .i64 b, .string s, .bool h, .string x]] w fun e w' => e = .returned (.agg #[.int .i64 a, .int .i64 b, .string s, .bool h, .string x]) ∧ Below w.heap.size w w' := by
  go_enter Try.func54, Try.ntmps54
  go_wp2
  refine bodyPost_ret (v := .agg #[.int .i64 a, .int .i64 b, .string s, .bool h, .string x]) (by simp [results, Try.results54, go_sem]) rfl ⟨rfl, ?_⟩
  exact (((Below.refl _ _).alloc (Nat.le_refl _) _).alloc (by simp) _).alloc (by simp; omega) _
set_option maxRecDepth 100000 in
set_option maxHeartbeats 2000000 in
theorem toMessageS_any (v : Value) (ms : Mgs) (w : World) (hv : RdM w v ms) (hl : ms.length ≤ 1048576) :
    Calls Try.prog 30 #[v] w fun e w' => ∃ v', e = .returned v' ∧ OwnM w' w.heap.size v' ms ∧ Below w.heap.size w w' := by
  obtain ⟨i0, hi, hz0, hz1, hz2⟩ := info_parts Try.infoMsg
  obtain ⟨a, ca, rfl, hca⟩ := hv
  have HC := hid hca
  obtain ⟨M, hM⟩ : ∃ M, M = madeCells (Value.agg #[.int .i64 0, .int .i64 0, .string ⟨#[]⟩, .bool false, .string ⟨#[]⟩]).cells (((ms.length : Nat) : Int).toNat * i0.size) := ⟨_, rfl⟩
  have hMs : M.size = ms.length * 5 := by rw [hM, size_madeCells, hz1]; simp
  have hmk : ∀ W : World, (Instr.makeSlice 48 (.int .i64 (ms.length : Int)) (.int .i64 (ms.length : Int))).run Try.prog W = .ok (.slice (some ⟨W.heap.size, 0, none⟩) ms.length ms.length) (W.alloc (.cells M 72)) := fun W => by
    have h := run_make (P := Try.prog) W 48 72 i0 (.agg #[.int .i64 0, .int .i64 0, .string ⟨#[]⟩, .bool false, .string ⟨#[]⟩]) Try.underlying48 hi hz0 .i64 .i64 (ms.length : Int) (ms.length : Int) (by omega) (by omega) (by rw [hz2]; omega) (by omega)
    rw [← hM] at h
    simpa using h
  clear hM hca
  have HO := hid (Blk.new w 72 M)
  have HMS := hid hMs
  have HTM := hid fun a b s h x W => toMessage_any a b s h x W
  go_enter Try.func30, Try.ntmps30
  go_wp2
  go_loopw [4] (fun i' wr => ∃ (i : Nat) (cs : Array Value), i ≤ ms.length ∧ i' = .int .i64 i ∧ Blk wr w.heap.size 72 cs ∧ cs.size = ms.length * 5 ∧ (∀ j, j < i → Arr5 cs (j * 5) (mat ms j)) ∧ Below w.heap.size w wr) (fun i' _ => ms.length - (intOf i').toNat)
  case atStart => exact ⟨0, M, Nat.zero_le _, rfl, HO.out, HMS.out, fun j hj => absurd hj (by omega), (Below.refl _ _).alloc (Nat.le_refl _) _⟩
  case round =>
    obtain ⟨i, cs, hil, rfl, hr, hcs, hdone, hb⟩ := hrel
    by_cases hlt : i < ms.length
    · obtain ⟨b, o, rfl, h5⟩ := HC.out i hlt
      have g5 := h5.below hb
      have hg : ∀ j, j < 5 → ∃ x, cs[i * 5 + j]? = some x := fun j hj => ⟨_, Array.getElem?_eq_getElem (by omega)⟩
      obtain ⟨z0, k0⟩ := hg 0 (by omega)
      obtain ⟨z1, k1⟩ := hg 1 (by omega)
      obtain ⟨z2, k2⟩ := hg 2 (by omega)
      obtain ⟨z3, k3⟩ := hg 3 (by omega)
      obtain ⟨z4, k4⟩ := hg 4 (by omega)
      rw [Nat.add_zero] at k0
      have HD : Hid (∀ cs' : Array Value, (∀ j, cs'[j]? = (if i * 5 + 4 = j then some (.string (mat ms i).text) else (if i * 5 + 3 = j then some (.bool (mat ms i).has) else (if i * 5 + 2 = j then some (.string (mat ms i).sum) else (if i * 5 + 1 = j then some (.int .i64 (mat ms i).to) else (if i * 5 = j then some (.int .i64 (mat ms i).fr) else cs[j]?)))))) → ∀ j, j < i + 1 → Arr5 cs' (j * 5) (mat ms j)) := fun cs' hc' j hj => by
        by_cases e : j = i
        · subst e
          constructor <;> rw [hc'] <;> simp
        · obtain ⟨a0, a1, a2, a3, a4⟩ := hdone j (by omega)
          constructor <;> rw [hc', if_neg (by omega), if_neg (by omega), if_neg (by omega), if_neg (by omega), if_neg (by omega)] <;> assumption
      generalize mat ms i = p at g5 HD
      obtain ⟨pf, pt, ps, ph, px⟩ := p
      obtain ⟨x0, x1, x2, x3, x4, x5⟩ := g5
      dsimp only at x1 x2 x3 x4 x5 HD
      have HR := hid hr
      have HB := hid hb
      have HCS := hid hcs
      have HK := hid (show cs[i * 5]? = some z0 ∧ cs[i * 5 + 1]? = some z1 ∧ cs[i * 5 + 2]? = some z2 ∧ cs[i * 5 + 3]? = some z3 ∧ cs[i * 5 + 4]? = some z4 from ⟨k0, k1, k2, k3, k4⟩)
      clear h5 hr hb hdone hg k0 k1 k2 k3 k4 x0 hcs
      go_wp2_with fail
      refine (HTM.out pf pt ps ph px _).mono ?_
      rintro e w1 ⟨rfl, hb1⟩
      have R0 := HR.out.below hb1
      have B1 := HB.out.trans (hb1.mono HB.out.size)
      obtain ⟨k0, k1, k2, k3, k4⟩ := HK.out
      have e0 : w1.cell? ⟨w.heap.size, i * 5, none⟩ = some z0 := (R0.cell (i * 5)).trans (k0)
      have f0 := R0.fz (i * 5)
      have R1 := R0.set (i * 5) (.int .i64 pf)
      have e1 : (w1.setCell ⟨w.heap.size, i * 5, none⟩ (.int .i64 pf)).cell? ⟨w.heap.size, i * 5 + 1, none⟩ = some z1 := (R1.cell (i * 5 + 1)).trans (by rw [Array.getElem?_setIfInBounds_ne (by omega)]; exact k1)
      have f1 := R1.fz (i * 5 + 1)
      have R2 := R1.set (i * 5 + 1) (.int .i64 pt)
      have e2 : ((w1.setCell ⟨w.heap.size, i * 5, none⟩ (.int .i64 pf)).setCell ⟨w.heap.size, i * 5 + 1, none⟩ (.int .i64 pt)).cell? ⟨w.heap.size, i * 5 + 2, none⟩ = some z2 := (R2.cell (i * 5 + 2)).trans (by rw [Array.getElem?_setIfInBounds_ne (by omega), Array.getElem?_setIfInBounds_ne (by omega)]; exact k2)
      have f2 := R2.fz (i * 5 + 2)
      have R3 := R2.set (i * 5 + 2) (.string ps)
      have e3 : (((w1.setCell ⟨w.heap.size, i * 5, none⟩ (.int .i64 pf)).setCell ⟨w.heap.size, i * 5 + 1, none⟩ (.int .i64 pt)).setCell ⟨w.heap.size, i * 5 + 2, none⟩ (.string ps)).cell? ⟨w.heap.size, i * 5 + 3, none⟩ = some z3 := (R3.cell (i * 5 + 3)).trans (by rw [Array.getElem?_setIfInBounds_ne (by omega), Array.getElem?_setIfInBounds_ne (by omega), Array.getElem?_setIfInBounds_ne (by omega)]; exact k3)
      have f3 := R3.fz (i * 5 + 3)
      have R4 := R3.set (i * 5 + 3) (.bool ph)
      have e4 : ((((w1.setCell ⟨w.heap.size, i * 5, none⟩ (.int .i64 pf)).setCell ⟨w.heap.size, i * 5 + 1, none⟩ (.int .i64 pt)).setCell ⟨w.heap.size, i * 5 + 2, none⟩ (.string ps)).setCell ⟨w.heap.size, i * 5 + 3, none⟩ (.bool ph)).cell? ⟨w.heap.size, i * 5 + 4, none⟩ = some z4 := (R4.cell (i * 5 + 4)).trans (by rw [Array.getElem?_setIfInBounds_ne (by omega), Array.getElem?_setIfInBounds_ne (by omega), Array.getElem?_setIfInBounds_ne (by omega), Array.getElem?_setIfInBounds_ne (by omega)]; exact k4)
      have f4 := R4.fz (i * 5 + 4)
      have R5 := R4.set (i * 5 + 4) (.string px)
      have G := (grown_same (grown_same (grown_same (grown_same (grownBy_setCellAt w1 w.heap.size (i * 5) (.int .i64 pf)) (grownBy_setCellAt _ w.heap.size (i * 5 + 1) (.int .i64 pt))) (grownBy_setCellAt _ w.heap.size (i * 5 + 2) (.string ps))) (grownBy_setCellAt _ w.heap.size (i * 5 + 3) (.bool ph))) (grownBy_setCellAt _ w.heap.size (i * 5 + 4) (.string px)))
      have HR5 := hid R5
      have HB5 := hid (B1.grown G (Nat.le_trans (Nat.le_refl _) B1.size) (fun g e => by cases e; exact Nat.le_refl _))
      have HA := hid (arr5 cs (i * 5) (.int .i64 pf) (.int .i64 pt) (.string ps) (.bool ph) (.string px) (by have := HCS.out; omega))
      clear R0 R1 R2 R3 R4 R5 G B1 hb1 k0 k1 k2 k3 k4
      go_wp2
      exact ⟨⟨i + 1, (((((cs.setIfInBounds (i * 5) (.int .i64 pf)).setIfInBounds (i * 5 + 1) (.int .i64 pt)).setIfInBounds (i * 5 + 2) (.string ps)).setIfInBounds (i * 5 + 3) (.bool ph)).setIfInBounds (i * 5 + 4) (.string px)), by omega, by go_num, HR5.out, by simp only [Array.size_setIfInBounds]; exact HCS.out, HD.out _ HA.out, HB5.out⟩, by simp [intOf]; omega⟩
    · obtain rfl : i = ms.length := by omega
      have HR := hid hr
      have HB := hid hb
      have HD := hid hdone
      clear hr hb hdone
      go_wp2
      go_ret
      exact ⟨_, rfl, ⟨_, cs, rfl, Nat.le_refl _, HR.out, hcs, HD.out⟩, HB.out⟩
set_option maxRecDepth 100000 in
set_option maxHeartbeats 2000000 in
theorem toStoreS_any (v : Value) (ss : Srs) (w : World) (hv : RdS w v ss) (hl : ss.length ≤ 1048576) (hf : SsFit 1048576 ss) :
    Calls Try.prog 29 #[v] w fun e w' => ∃ v', e = .returned v' ∧ OwnS w' w.heap.size v' ss ∧ Below w.heap.size w w' := by
  obtain ⟨i0, hi, hz0, hz1, hz2⟩ := info_parts Try.infoStore
  obtain ⟨a, ca, rfl, hca⟩ := hv
  have HC := hid hca
  obtain ⟨M, hM⟩ : ∃ M, M = madeCells (Value.agg #[.int .i64 0, .int .i64 0, .slice none 0 0, .slice none 0 0]).cells (((ss.length : Nat) : Int).toNat * i0.size) := ⟨_, rfl⟩
  have hMs : M.size = ss.length * 4 := by rw [hM, size_madeCells, hz1]; simp
  have hmk : ∀ W : World, (Instr.makeSlice 47 (.int .i64 (ss.length : Int)) (.int .i64 (ss.length : Int))).run Try.prog W = .ok (.slice (some ⟨W.heap.size, 0, none⟩) ss.length ss.length) (W.alloc (.cells M 33)) := fun W => by
    have h := run_make (P := Try.prog) W 47 33 i0 (.agg #[.int .i64 0, .int .i64 0, .slice none 0 0, .slice none 0 0]) Try.underlying47 hi hz0 .i64 .i64 (ss.length : Int) (ss.length : Int) (by omega) (by omega) (by rw [hz2]; omega) (by omega)
    rw [← hM] at h
    simpa using h
  clear hM hca
  have HO := hid (Blk.new w 33 M)
  have HMS := hid hMs
  have HF := hid hf
  clear hf
  go_enter Try.func29, Try.ntmps29
  go_wp2
  go_loopw [4] (fun i' wr => ∃ (i : Nat) (cs : Array Value), i ≤ ss.length ∧ i' = .int .i64 i ∧ Blk wr w.heap.size 33 cs ∧ cs.size = ss.length * 4 ∧ (∀ j, j < i → ∃ vi vp, Arr4 wr (w.heap.size + 1) cs (j * 4) vi vp (sat ss j)) ∧ Below w.heap.size w wr ∧ w.heap.size + 1 ≤ wr.heap.size) (fun i' _ => ss.length - (intOf i').toNat)
  case atStart => exact ⟨0, M, Nat.zero_le _, rfl, HO.out, HMS.out, fun j hj => absurd hj (by omega), (Below.refl _ _).alloc (Nat.le_refl _) _, by simp⟩
  case round =>
    obtain ⟨i, cs, hil, rfl, hr, hcs, hdone, hb, hsz⟩ := hrel
    by_cases hlt : i < ss.length
    · obtain ⟨b, o, vi, vp, rfl, h4⟩ := HC.out i hlt
      have g4 := h4.below hb
      have hfi := HF.out i hlt
      have hg : ∀ j, j < 4 → ∃ x, cs[i * 4 + j]? = some x := fun j hj => ⟨_, Array.getElem?_eq_getElem (by omega)⟩
      obtain ⟨z0, k0⟩ := hg 0 (by omega)
      obtain ⟨z1, k1⟩ := hg 1 (by omega)
      obtain ⟨z2, k2⟩ := hg 2 (by omega)
      obtain ⟨z3, k3⟩ := hg 3 (by omega)
      rw [Nat.add_zero] at k0
      have HTS := hid fun W h k => toStore_any (sat ss i).wd (sat ss i).room vi vp (sat ss i).its (sat ss i).ts W h k hfi.its hfi.ts
      have HD : Hid (∀ (W W' : World) (vi' vp' : Value) (cs' : Array Value), Below wr.heap.size wr W → W.grownBy W' (some w.heap.size) → OwnI W' (w.heap.size + 1) vi' (sat ss i).its → W'.ownsRow (w.heap.size + 1) 9 1 vp' (sat ss i).ts.length ((sat ss i).ts.map Value.string) → (∀ j, cs'[j]? = (if i * 4 + 3 = j then some vp' else (if i * 4 + 2 = j then some vi' else (if i * 4 + 1 = j then some (.int .i64 (sat ss i).room) else (if i * 4 = j then some (.int .i64 (sat ss i).wd) else cs[j]?))))) → ∀ j, j < i + 1 → ∃ vi vp, Arr4 W' (w.heap.size + 1) cs' (j * 4) vi vp (sat ss j)) := fun W W' vi' vp' cs' hW hG oi op hc' j hj => by
        by_cases e : j = i
        · subst e
          refine ⟨vi', vp', ?_, ?_, ?_, ?_, oi, op⟩ <;> rw [hc'] <;> simp
        · obtain ⟨vj, vq, h4⟩ := hdone j (by omega)
          obtain ⟨a0, a1, a2, a3, a4, a5⟩ := (h4.below hW).kept hG (Nat.lt_succ_self _)
          refine ⟨vj, vq, ?_, ?_, ?_, ?_, a4, a5⟩ <;> rw [hc', if_neg (by omega), if_neg (by omega), if_neg (by omega), if_neg (by omega)] <;> assumption
      generalize sat ss i = p at g4 HD HTS
      obtain ⟨pw, pr, pi, pt⟩ := p
      obtain ⟨x0, x1, x2, x3, x4, x5, x6⟩ := g4
      dsimp only at x1 x2 x3 x4 x5 x6 HD HTS
      obtain ⟨a3, c3, hvi, _⟩ := id x5
      obtain ⟨a5, c5, hvp, _⟩ := x6.form
      subst hvi hvp
      have HT1 := hid (HTS.out wr x5 x6)
      have HR := hid hr
      have HB := hid hb
      have HCS := hid hcs
      have HK := hid (show cs[i * 4]? = some z0 ∧ cs[i * 4 + 1]? = some z1 ∧ cs[i * 4 + 2]? = some z2 ∧ cs[i * 4 + 3]? = some z3 from ⟨k0, k1, k2, k3⟩)
      clear h4 hr hb hdone hg k0 k1 k2 k3 x0 x5 x6 HTS hfi hcs
      go_wp2_with fail
      refine HT1.out.mono ?_
      rintro e w1 ⟨vi1, vp1, rfl, oi1, op1, hb1⟩
      obtain ⟨gi, hvi1, hgi, hBi⟩ := id oi1
      obtain ⟨a1, d1, hvp1, _⟩ := row_form op1
      obtain ⟨g1, c1, hv1⟩ : ∃ g1 c1, vi1 = .slice g1 pi.length c1 := ⟨_, _, hvi1⟩
      clear hvi1 hBi
      subst hv1 hvp1
      have R0 := HR.out.below hb1
      have B1 := HB.out.trans (hb1.mono HB.out.size)
      obtain ⟨k0, k1, k2, k3⟩ := HK.out
      have e0 : w1.cell? ⟨w.heap.size, i * 4, none⟩ = some z0 := (R0.cell (i * 4)).trans (k0)
      have f0 := R0.fz (i * 4)
      have R1 := R0.set (i * 4) (.int .i64 pw)
      have e1 : (w1.setCell ⟨w.heap.size, i * 4, none⟩ (.int .i64 pw)).cell? ⟨w.heap.size, i * 4 + 1, none⟩ = some z1 := (R1.cell (i * 4 + 1)).trans (by rw [Array.getElem?_setIfInBounds_ne (by omega)]; exact k1)
      have f1 := R1.fz (i * 4 + 1)
      have R2 := R1.set (i * 4 + 1) (.int .i64 pr)
      have e2 : ((w1.setCell ⟨w.heap.size, i * 4, none⟩ (.int .i64 pw)).setCell ⟨w.heap.size, i * 4 + 1, none⟩ (.int .i64 pr)).cell? ⟨w.heap.size, i * 4 + 2, none⟩ = some z2 := (R2.cell (i * 4 + 2)).trans (by rw [Array.getElem?_setIfInBounds_ne (by omega), Array.getElem?_setIfInBounds_ne (by omega)]; exact k2)
      have f2 := R2.fz (i * 4 + 2)
      have R3 := R2.set (i * 4 + 2) (.slice g1 pi.length c1)
      have e3 : (((w1.setCell ⟨w.heap.size, i * 4, none⟩ (.int .i64 pw)).setCell ⟨w.heap.size, i * 4 + 1, none⟩ (.int .i64 pr)).setCell ⟨w.heap.size, i * 4 + 2, none⟩ (.slice g1 pi.length c1)).cell? ⟨w.heap.size, i * 4 + 3, none⟩ = some z3 := (R3.cell (i * 4 + 3)).trans (by rw [Array.getElem?_setIfInBounds_ne (by omega), Array.getElem?_setIfInBounds_ne (by omega), Array.getElem?_setIfInBounds_ne (by omega)]; exact k3)
      have f3 := R3.fz (i * 4 + 3)
      have R4 := R3.set (i * 4 + 3) (.slice a1 pt.length d1)
      have G := (grown_same (grown_same (grown_same (grownBy_setCellAt w1 w.heap.size (i * 4) (.int .i64 pw)) (grownBy_setCellAt _ w.heap.size (i * 4 + 1) (.int .i64 pr))) (grownBy_setCellAt _ w.heap.size (i * 4 + 2) (.slice g1 pi.length c1))) (grownBy_setCellAt _ w.heap.size (i * 4 + 3) (.slice a1 pt.length d1)))
      have HR4 := hid R4
      have HB4 := hid (B1.grown G (Nat.le_trans (Nat.le_refl _) B1.size) (fun g e => by cases e; exact Nat.le_refl _))
      have HA := hid (arr4 cs (i * 4) (.int .i64 pw) (.int .i64 pr) (.slice g1 pi.length c1) (.slice a1 pt.length d1) (by have := HCS.out; omega))
      have HDD := hid (HD.out _ _ _ _ _ hb1 G ((oi1.base (by omega)).kept G (Nat.lt_succ_self _)) (row_kept (ownsRow_base op1 (by omega)) G (Nat.lt_succ_self _)) HA.out)
      have hsg := Nat.le_trans hb1.size G.size
      clear R0 R1 R2 R3 R4 G B1 hb1 k0 k1 k2 k3 oi1 op1 hgi
      go_wp2
      exact ⟨⟨i + 1, ((((cs.setIfInBounds (i * 4) (.int .i64 pw)).setIfInBounds (i * 4 + 1) (.int .i64 pr)).setIfInBounds (i * 4 + 2) (.slice g1 pi.length c1)).setIfInBounds (i * 4 + 3) (.slice a1 pt.length d1)), by omega, by go_num, HR4.out, by simp only [Array.size_setIfInBounds]; exact HCS.out, HDD.out, HB4.out, Nat.le_trans hsz hsg⟩, by simp [intOf]; omega⟩
    · obtain rfl : i = ss.length := by omega
      have HR := hid hr
      have HB := hid hb
      have HD := hid hdone
      clear hr hb hdone
      go_wp2
      go_ret
      exact ⟨_, rfl, ⟨_, cs, rfl, Nat.le_refl _, HR.out, hcs, HD.out⟩, HB.out⟩
end Go.Proofs.Ytiflibkabmkloaa
