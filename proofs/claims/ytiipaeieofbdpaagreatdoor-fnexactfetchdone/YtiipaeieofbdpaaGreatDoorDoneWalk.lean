import Derived.Test.YtiipaeieofbdpaaGreatDoorFetchTo
import Derived.Test.YtiipaeieofbdpaaGreatDoorPeers
import Derived.Test.YtiipaeieofbdpaaGreatDoorDoneImpl
/- Copies of rows of peers. -/
namespace Go.Proofs.YtiipaeieofbdpaaGreatDoor
open Go.RowKit
set_option maxRecDepth 100000 in
set_option maxHeartbeats 2000000 in
theorem toPeerS_any (v : Value) (ps : Prs) (w : World) (hv : RdP w v ps) (hl : ps.length ≤ 1048576) (hf : PsFit 1048576 ps) :
    Calls Tryz.prog 27 #[v] w fun e w' => ∃ v' qs, e = .returned v' ∧ qs.map Prod.fst = ps ∧ PeersOwn w' w.heap.size v' qs ∧ Below w.heap.size w w' := by
  obtain ⟨i0, hi, hz0, hz1, hz2⟩ := info_parts Tryz.infoPeer
  obtain ⟨a, ca, rfl, hca⟩ := hv
  have HC := hid hca
  have HF := hid hf
  obtain ⟨M, hM⟩ : ∃ M, M = madeCells (Value.agg #[.int .i64 0, .int .i64 0, .int .i64 0, .string ⟨#[]⟩, .slice none 0 0]).cells (((ps.length : Nat) : Int).toNat * i0.size) := ⟨_, rfl⟩
  have hMs : M.size = ps.length * 5 := by rw [hM, size_madeCells, hz1]; simp
  have hMv : ∀ j, j < ps.length * 5 → ∃ x, M[j]? = some x := fun j hj => ⟨_, Array.getElem?_eq_getElem (by omega)⟩
  have hmk : ∀ W : World, (Instr.makeSlice 35 (.int .i64 (ps.length : Int)) (.int .i64 (ps.length : Int))).run Tryz.prog W = .ok (.slice (some ⟨W.heap.size, 0, none⟩) ps.length ps.length) (W.alloc (.cells M 71)) := fun W => by
    have h := run_make (P := Tryz.prog) W 35 71 i0 (.agg #[.int .i64 0, .int .i64 0, .int .i64 0, .string ⟨#[]⟩, .slice none 0 0]) Tryz.underlying35 hi hz0 .i64 .i64 (ps.length : Int) (ps.length : Int) (by omega) (by omega) (by rw [hz2]; omega) (by omega)
    rw [← hM] at h
    simpa using h
  clear hM hca hf
  have HMV := hid hMv
  clear hMv
  have HO := hid (Blk.new w 71 M)
  have HMS := hid hMs
  go_enter Tryz.func27, Tryz.ntmps27
  go_wp2
  go_loopw [4] (fun i' wr => ∃ (i : Nat) (qs : PV), i ≤ ps.length ∧ i' = .int .i64 i ∧ qs.map Prod.fst = ps.take i ∧ Blk wr w.heap.size 71 (cellsQ qs ++ M.toList.drop (i * 5)).toArray ∧ (∀ j, j < qs.length → wr.ownsRow (w.heap.size + 1) 9 1 (qv qs j) (qp qs j).nots.length ((qp qs j).nots.map Value.string)) ∧ (∀ x y, x < qs.length → y < qs.length → x ≠ y → ∀ g, (qv qs x).ownBlock = some g → (qv qs y).ownBlock ≠ some g) ∧ Below w.heap.size w wr ∧ w.heap.size + 1 ≤ wr.heap.size) (fun i' _ => ps.length - (intOf i').toNat)
  case atStart => exact ⟨0, [], Nat.zero_le _, rfl, rfl, by simpa [cellsQ] using HO.out, fun j hj => absurd hj (by simp), fun x y hx => absurd hx (by simp), (Below.refl _ _).alloc (Nat.le_refl _) _, by simp⟩
  case round =>
    obtain ⟨i, qs, hil, rfl, hqs, hr, hnr, hap, hb, hsz⟩ := hrel
    have hql : qs.length = i := by have := congrArg List.length hqs; simp at this; omega
    by_cases hlt : i < ps.length
    · obtain ⟨b, o, vn, rfl, h5⟩ := HC.out i hlt
      have g5 := h5.below hb
      have hfi := HF.out i hlt
      have HQS : Hid (∀ v', (qs ++ [(pat ps i, v')]).map Prod.fst = ps.take (i + 1)) := fun v' => by
        rw [List.map_append, hqs, List.take_succ_eq_append_getElem hlt]
        simp [pat, hlt]
      have HTP := hid fun W h => toPeer_any (pat ps i).lies (pat ps i).wait (pat ps i).last (pat ps i).asked vn (pat ps i).nots W h hfi.nots
      have HSET := hid fun v' => rowQ_set qs M.toList i hql (by simp; omega) (pat ps i) v'
      have HPA : Hid (∀ v' j, qp (qs ++ [(pat ps i, v')]) j = if j < i then qp qs j else if j = i then pat ps i else pr0) := fun v' j => by
        unfold qp
        rw [List.getD_eq_getElem?_getD, List.getElem?_append, hql]
        split
        · next h => rw [List.getD_eq_getElem?_getD]
        · next h =>
          by_cases e : j = i
          · subst e; simp
          · rw [List.getElem?_eq_none (by simp; omega), if_neg e]; rfl
      have HVA : Hid (∀ v' j, qv (qs ++ [(pat ps i, v')]) j = if j < i then qv qs j else if j = i then v' else .slice none 0 0) := fun v' j => by
        unfold qv
        rw [List.getD_eq_getElem?_getD, List.getElem?_append, hql]
        split
        · next h => rw [List.getD_eq_getElem?_getD]
        · next h =>
          by_cases e : j = i
          · subst e; simp
          · rw [List.getElem?_eq_none (by simp; omega), if_neg e]; rfl
      have hg : ∀ j, j < 5 → ∃ x, (cellsQ qs ++ M.toList.drop (i * 5))[i * 5 + j]? = some x := fun j hj => by
        obtain ⟨x, hx⟩ := HMV.out (i * 5 + j) (by omega)
        exact ⟨x, (rowQ_get qs M.toList i j hql).trans (by simpa using hx)⟩
      obtain ⟨z0, hz0'⟩ := hg 0 (by omega)
      obtain ⟨z1, hz1'⟩ := hg 1 (by omega)
      obtain ⟨z2, hz2'⟩ := hg 2 (by omega)
      obtain ⟨z3, hz3'⟩ := hg 3 (by omega)
      obtain ⟨z4, hz4'⟩ := hg 4 (by omega)
      rw [Nat.add_zero] at hz0'
      obtain ⟨x0, x1, x2, x3, x4, x5, x6⟩ := g5
      obtain ⟨a4, c4, hvn, _⟩ := x6.form
      have HX6 := hid x6
      have HNL := hid hfi.nots
      have HR := hid hr
      have HB := hid hb
      have HNR := hid hnr
      have HAP := hid hap
      have HQL := hid hql
      generalize hP : pat ps i = p at *
      obtain ⟨pl, pw, pt, pa, pn⟩ := p
      dsimp only at x1 x2 x3 x4 hvn HTP HSET HX6 HNL
      subst hvn
      generalize hcs : cellsQ qs ++ M.toList.drop (i * 5) = cs at *
      have HZ := hid (show cs[i * 5]? = some z0 ∧ cs[i * 5 + 1]? = some z1 ∧ cs[i * 5 + 2]? = some z2 ∧ cs[i * 5 + 3]? = some z3 ∧ cs[i * 5 + 4]? = some z4 from ⟨hz0', hz1', hz2', hz3', hz4'⟩)
      clear h5 x6 hr hb hnr hap hfi hg hz0' hz1' hz2' hz3' hz4' hP hcs hqs hql
      go_wp2_with fail
      refine (HTP.out _ HX6.out).mono ?_
      rintro e w1 ⟨v1, rfl, ho1, hb1⟩
      obtain ⟨a1, c1, rfl, _⟩ := row_form ho1
      have R0 := HR.out.below hb1
      have B1 := HB.out.trans (hb1.mono HB.out.size)
      have hs1 := hb1.size
      obtain ⟨y0, y1, y2, y3, y4⟩ := HZ.out
      have e0 : w1.cell? ⟨w.heap.size, i * 5, none⟩ = some z0 := (R0.cell (i * 5)).trans (by simpa using y0)
      have f0 := R0.fz (i * 5)
      have R1 := R0.set (i * 5) (.int .i64 pl)
      have e1 : (w1.setCell ⟨w.heap.size, i * 5, none⟩ (.int .i64 pl)).cell? ⟨w.heap.size, i * 5 + 1, none⟩ = some z1 := (R1.cell (i * 5 + 1)).trans (by rw [List.setIfInBounds_toArray, List.getElem?_toArray, List.getElem?_set_ne (by omega)]; exact y1)
      have f1 := R1.fz (i * 5 + 1)
      have R2 := R1.set (i * 5 + 1) (.int .i64 pw)
      have e2 : ((w1.setCell ⟨w.heap.size, i * 5, none⟩ (.int .i64 pl)).setCell ⟨w.heap.size, i * 5 + 1, none⟩ (.int .i64 pw)).cell? ⟨w.heap.size, i * 5 + 2, none⟩ = some z2 := (R2.cell (i * 5 + 2)).trans (by rw [List.setIfInBounds_toArray, List.setIfInBounds_toArray, List.getElem?_toArray, List.getElem?_set_ne (by omega), List.getElem?_set_ne (by omega)]; exact y2)
      have f2 := R2.fz (i * 5 + 2)
      have R3 := R2.set (i * 5 + 2) (.int .i64 pt)
      have e3 : (((w1.setCell ⟨w.heap.size, i * 5, none⟩ (.int .i64 pl)).setCell ⟨w.heap.size, i * 5 + 1, none⟩ (.int .i64 pw)).setCell ⟨w.heap.size, i * 5 + 2, none⟩ (.int .i64 pt)).cell? ⟨w.heap.size, i * 5 + 3, none⟩ = some z3 := (R3.cell (i * 5 + 3)).trans (by rw [List.setIfInBounds_toArray, List.setIfInBounds_toArray, List.setIfInBounds_toArray, List.getElem?_toArray, List.getElem?_set_ne (by omega), List.getElem?_set_ne (by omega), List.getElem?_set_ne (by omega)]; exact y3)
      have f3 := R3.fz (i * 5 + 3)
      have R4 := R3.set (i * 5 + 3) (.string pa)
      have e4 : ((((w1.setCell ⟨w.heap.size, i * 5, none⟩ (.int .i64 pl)).setCell ⟨w.heap.size, i * 5 + 1, none⟩ (.int .i64 pw)).setCell ⟨w.heap.size, i * 5 + 2, none⟩ (.int .i64 pt)).setCell ⟨w.heap.size, i * 5 + 3, none⟩ (.string pa)).cell? ⟨w.heap.size, i * 5 + 4, none⟩ = some z4 := (R4.cell (i * 5 + 4)).trans (by rw [List.setIfInBounds_toArray, List.setIfInBounds_toArray, List.setIfInBounds_toArray, List.setIfInBounds_toArray, List.getElem?_toArray, List.getElem?_set_ne (by omega), List.getElem?_set_ne (by omega), List.getElem?_set_ne (by omega), List.getElem?_set_ne (by omega)]; exact y4)
      have f4 := R4.fz (i * 5 + 4)
      have R5 := R4.set (i * 5 + 4) (.slice a1 pn.length c1)
      rw [List.setIfInBounds_toArray, List.setIfInBounds_toArray, List.setIfInBounds_toArray, List.setIfInBounds_toArray, List.setIfInBounds_toArray] at R5
      have hset := HSET.out (.slice a1 pn.length c1)
      rw [hset] at R5
      have HR5 := hid R5
      have G5 := grown_same (grown_same (grown_same (grown_same (grownBy_setCellAt w1 w.heap.size (i * 5) (.int .i64 pl)) (grownBy_setCellAt _ w.heap.size (i * 5 + 1) (.int .i64 pw))) (grownBy_setCellAt _ w.heap.size (i * 5 + 2) (.int .i64 pt))) (grownBy_setCellAt _ w.heap.size (i * 5 + 3) (.string pa))) (grownBy_setCellAt _ w.heap.size (i * 5 + 4) (.slice a1 pn.length c1))
      have HG5 := hid G5
      have HO1 := hid ho1
      have HB1 := hid B1
      have HBB1 := hid hb1
      clear R0 R1 R2 R3 R4 R5 G5 ho1 B1 hb1 y0 y1 y2 y3 y4 hset
      go_wp2
      have hsg := HG5.out.size
      refine ⟨⟨i + 1, qs ++ [(⟨pl, pw, pt, pa, pn⟩, .slice a1 pn.length c1)], by omega, by go_num, HQS.out _, HR5.out, fun j hj => ?_, fun x y hx hy hxy g => ?_, HB1.out.grown HG5.out (by omega) (fun g e => by cases e; exact Nat.le_refl _), by omega⟩, by simp [intOf]; omega⟩
      · have hj' : j < i + 1 := by rw [List.length_append, HQL.out] at hj; simpa using hj
        rw [HPA.out, HVA.out]
        by_cases hji : j < i
        · rw [if_pos hji, if_pos hji]
          have h0 := HNR.out j (by rw [HQL.out]; exact hji)
          exact row_kept (Below.row HBB1.out h0) HG5.out (by omega)
        · obtain rfl : j = i := by omega
          rw [if_neg hji, if_neg hji, if_pos rfl, if_pos rfl]
          exact row_kept (ownsRow_base HO1.out (by omega)) HG5.out (by omega)
      · have hx' : x < i + 1 := by rw [List.length_append, HQL.out] at hx; simpa using hx
        have hy' : y < i + 1 := by rw [List.length_append, HQL.out] at hy; simpa using hy
        rw [HVA.out, HVA.out]
        intro h1 h2
        by_cases hxi : x < i
        · rw [if_pos hxi] at h1
          by_cases hyi : y < i
          · rw [if_pos hyi] at h2
            exact HAP.out x y (by rw [HQL.out]; exact hxi) (by rw [HQL.out]; exact hyi) hxy g h1 h2
          · rw [if_neg hyi, if_pos (by omega)] at h2
            have k1 := (HNR.out x (by rw [HQL.out]; exact hxi)).lt g h1
            have k2 := HO1.out.lt g h2
            omega
        · rw [if_neg hxi, if_pos (by omega)] at h1
          have hyi : y < i := by omega
          rw [if_pos hyi] at h2
          have k1 := (HNR.out y (by rw [HQL.out]; exact hyi)).lt g h2
          have k2 := HO1.out.lt g h1
          omega
    · obtain rfl : i = ps.length := by omega
      have e : cellsQ qs ++ M.toList.drop (ps.length * 5) = cellsQ qs := by rw [List.drop_of_length_le (by simp; omega)]; simp
      rw [e] at hr
      rw [List.take_length] at hqs
      have HR := hid hr
      have HQS := hid hqs
      have HNR := hid hnr
      have HAP := hid hap
      have HB := hid hb
      clear hr hqs hnr hap hb
      go_wp2
      go_ret
      have hcl := cellsQ_len qs
      refine ⟨_, qs, rfl, HQS.out, ⟨?_, fun i hi => ownsRow_base (HNR.out i hi) (by omega), fun j hj g hg he => ?_, HAP.out⟩, HB.out⟩
      · rw [← hql]
        exact ⟨hcl, .inr ⟨w.heap.size, qs.length, (cellsQ qs).toArray, rfl, Nat.le_refl _, HR.out, Nat.le_refl _, by unfold maxLen; omega, by simp [hcl], by show List.take (qs.length * 5) (cellsQ qs).toArray.toList = _; rw [← hcl, List.toList_toArray, List.take_length]⟩⟩
      · have k1 := ((HNR.out j hj).lt g hg).1
        have k2 : w.heap.size = g := Option.some.inj he
        omega
end Go.Proofs.YtiipaeieofbdpaaGreatDoor
/- Copies of fetches. -/
namespace Go.Proofs.YtiipaeieofbdpaaGreatDoor
open Go.RowKit
set_option maxRecDepth 100000 in
set_option maxHeartbeats 2000000 in
theorem toFetch_any (nm : ByteArray) (now : Int) (full : Bool) (wd room : Int) (vi vp vq : Value) (its : Itms) (ts : List ByteArray) (ps : Prs) (w : World) (hi : RdI w vi its) (hp : Reads w vp ts) (hq : RdP w vq ps) (hli : its.length ≤ 1048576) (hlp : ts.length ≤ 1048576) (hlq : ps.length ≤ 1048576) (hf : PsFit 1048576 ps) :
    Calls Tryz.prog 8 #[fval nm now full wd room vi vp vq] w fun e w' => ∃ vi' vp' vq' qs, e = .returned (fval nm now full wd room vi' vp' vq') ∧ qs.map Prod.fst = ps ∧ FetchOwn w' (w.heap.size + 3) vi' vp' vq' its ts qs ∧ OwnI w' (w.heap.size + 3) vi' its ∧ Below w.heap.size w w' := by
  have hN1 := ((Blk.new w 28 (fcells nm now full wd room vi vp vq)).alloc (.cells #[.string ⟨#[]⟩, .int .i64 0, .bool false, .int .i64 0, .int .i64 0, .slice none 0 0, .slice none 0 0, .slice none 0 0] 37)).alloc (.cells #[.string nm, .int .i64 now, .bool full, .int .i64 0, .int .i64 0, .slice none 0 0, .slice none 0 0, .slice none 0 0] 37)
  have hN2 := (Blk.new (w.alloc (.cells (fcells nm now full wd room vi vp vq) 28)) 37 #[.string ⟨#[]⟩, .int .i64 0, .bool false, .int .i64 0, .int .i64 0, .slice none 0 0, .slice none 0 0, .slice none 0 0]).alloc (.cells #[.string nm, .int .i64 now, .bool full, .int .i64 0, .int .i64 0, .slice none 0 0, .slice none 0 0, .slice none 0 0] 37)
  have hN3 := Blk.new ((w.alloc (.cells (fcells nm now full wd room vi vp vq) 28)).alloc (.cells #[.string ⟨#[]⟩, .int .i64 0, .bool false, .int .i64 0, .int .i64 0, .slice none 0 0, .slice none 0 0, .slice none 0 0] 37)) 37 #[.string nm, .int .i64 now, .bool full, .int .i64 0, .int .i64 0, .slice none 0 0, .slice none 0 0, .slice none 0 0]
  rw [World.size_alloc] at hN2
  rw [World.size_alloc, World.size_alloc] at hN3
  have hA := (((Below.refl w.heap.size w).alloc (Nat.le_refl _) (.cells (fcells nm now full wd room vi vp vq) 28)).alloc (by simp) (.cells #[.string ⟨#[]⟩, .int .i64 0, .bool false, .int .i64 0, .int .i64 0, .slice none 0 0, .slice none 0 0, .slice none 0 0] 37)).alloc (by simp; omega) (.cells #[.string nm, .int .i64 now, .bool full, .int .i64 0, .int .i64 0, .slice none 0 0, .slice none 0 0, .slice none 0 0] 37)
  have HT := hid (toStore2_any wd room vi vp its ts _ (hi.below hA) (hp.below hA) hli hlp)
  have HTP := hid fun W h => toPeerS_any vq ps W h hlq hf
  have HQ := hid hq
  obtain ⟨ai, ci, rfl, _⟩ := hi
  obtain ⟨ap, cp, rfl, _⟩ := hp.form
  obtain ⟨aq, cq, rfl, _⟩ := hq
  have HN1 := hid hN1
  have HN2 := hid hN2
  have HN3 := hid hN3
  have HA := hid hA
  clear hp hA hN1 hN2 hN3 hf
  go_enter Tryz.func8, Tryz.ntmps8
  go_wp2_with fail
  refine HT.out.mono ?_
  rintro e w1 ⟨v1, p1, rfl, oi1, op1, hap1, hb1⟩
  have N1 := HN1.out.below hb1
  have N2 := HN2.out.below hb1
  have N3 := HN3.out.below hb1
  have B1 := HA.out.trans (hb1.mono (by simp; omega))
  rw [World.size_alloc, World.size_alloc, World.size_alloc] at oi1 op1
  have hs1 := hb1.size
  rw [World.size_alloc, World.size_alloc, World.size_alloc] at hs1
  have so1 : StoreOwn w1 (w.heap.size + 1 + 1 + 1) v1 p1 its ts := ⟨oi1.row hli, op1, hap1⟩
  have HOI1 := hid oi1
  obtain ⟨a1, c1, rfl⟩ := row_any so1.items
  obtain ⟨b1, d1, rfl⟩ := row_any so1.pins
  have K1 : Blk (w1.setCell ⟨w.heap.size + 1 + 1, 3, none⟩ (.int .i64 wd)) (w.heap.size + 1 + 1) 37 #[.string nm, .int .i64 now, .bool full, .int .i64 wd, .int .i64 0, .slice none 0 0, .slice none 0 0, .slice none 0 0] := N3.set 3 (.int .i64 wd)
  have K2 : Blk ((w1.setCell ⟨w.heap.size + 1 + 1, 3, none⟩ (.int .i64 wd)).setCell ⟨w.heap.size + 1 + 1, 4, none⟩ (.int .i64 room)) (w.heap.size + 1 + 1) 37 #[.string nm, .int .i64 now, .bool full, .int .i64 wd, .int .i64 room, .slice none 0 0, .slice none 0 0, .slice none 0 0] := K1.set 4 (.int .i64 room)
  have K3 : Blk (((w1.setCell ⟨w.heap.size + 1 + 1, 3, none⟩ (.int .i64 wd)).setCell ⟨w.heap.size + 1 + 1, 4, none⟩ (.int .i64 room)).setCell ⟨w.heap.size + 1 + 1, 5, none⟩ (.slice a1 its.length c1)) (w.heap.size + 1 + 1) 37 #[.string nm, .int .i64 now, .bool full, .int .i64 wd, .int .i64 room, .slice a1 its.length c1, .slice none 0 0, .slice none 0 0] := K2.set 5 (.slice a1 its.length c1)
  have K4 : Blk ((((w1.setCell ⟨w.heap.size + 1 + 1, 3, none⟩ (.int .i64 wd)).setCell ⟨w.heap.size + 1 + 1, 4, none⟩ (.int .i64 room)).setCell ⟨w.heap.size + 1 + 1, 5, none⟩ (.slice a1 its.length c1)).setCell ⟨w.heap.size + 1 + 1, 6, none⟩ (.slice b1 ts.length d1)) (w.heap.size + 1 + 1) 37 #[.string nm, .int .i64 now, .bool full, .int .i64 wd, .int .i64 room, .slice a1 its.length c1, .slice b1 ts.length d1, .slice none 0 0] := K3.set 6 (.slice b1 ts.length d1)
  have u0 : w1.cell? ⟨w.heap.size + 1 + 1, 3, none⟩ = some (.int .i64 0) := N3.cell 3
  have r0 : w1.frozen? ⟨w.heap.size + 1 + 1, 3, none⟩ = false := N3.fz 3
  have u1 : (w1.setCell ⟨w.heap.size + 1 + 1, 3, none⟩ (.int .i64 wd)).cell? ⟨w.heap.size + 1 + 1, 4, none⟩ = some (.int .i64 0) := K1.cell 4
  have r1 : (w1.setCell ⟨w.heap.size + 1 + 1, 3, none⟩ (.int .i64 wd)).frozen? ⟨w.heap.size + 1 + 1, 4, none⟩ = false := K1.fz 4
  have u2 : ((w1.setCell ⟨w.heap.size + 1 + 1, 3, none⟩ (.int .i64 wd)).setCell ⟨w.heap.size + 1 + 1, 4, none⟩ (.int .i64 room)).cell? ⟨w.heap.size + 1 + 1, 5, none⟩ = some (.slice none 0 0) := K2.cell 5
  have r2 : ((w1.setCell ⟨w.heap.size + 1 + 1, 3, none⟩ (.int .i64 wd)).setCell ⟨w.heap.size + 1 + 1, 4, none⟩ (.int .i64 room)).frozen? ⟨w.heap.size + 1 + 1, 5, none⟩ = false := K2.fz 5
  have u3 : (((w1.setCell ⟨w.heap.size + 1 + 1, 3, none⟩ (.int .i64 wd)).setCell ⟨w.heap.size + 1 + 1, 4, none⟩ (.int .i64 room)).setCell ⟨w.heap.size + 1 + 1, 5, none⟩ (.slice a1 its.length c1)).cell? ⟨w.heap.size + 1 + 1, 6, none⟩ = some (.slice none 0 0) := K3.cell 6
  have r3 : (((w1.setCell ⟨w.heap.size + 1 + 1, 3, none⟩ (.int .i64 wd)).setCell ⟨w.heap.size + 1 + 1, 4, none⟩ (.int .i64 room)).setCell ⟨w.heap.size + 1 + 1, 5, none⟩ (.slice a1 its.length c1)).frozen? ⟨w.heap.size + 1 + 1, 6, none⟩ = false := K3.fz 6
  have G4 := grown_same (grown_same (grown_same (grownBy_setCellAt w1 (w.heap.size + 1 + 1) 3 (.int .i64 wd)) (grownBy_setCellAt _ (w.heap.size + 1 + 1) 4 (.int .i64 room))) (grownBy_setCellAt _ (w.heap.size + 1 + 1) 5 (.slice a1 its.length c1))) (grownBy_setCellAt _ (w.heap.size + 1 + 1) 6 (.slice b1 ts.length d1))
  have hne1 : w.heap.size ≠ w.heap.size + 1 + 1 := by omega
  have hne2 : w.heap.size + 1 ≠ w.heap.size + 1 + 1 := by omega
  have M1 := N1.kept G4 (fun e => hne1 (Option.some.inj e))
  have M2 := N2.kept G4 (fun e => hne2 (Option.some.inj e))
  have MB := B1.grown G4 (by omega) (fun g e => by cases e; omega)
  have MS := so1.kept G4 (by omega)
  have y7 : ((((w1.setCell ⟨w.heap.size + 1 + 1, 3, none⟩ (.int .i64 wd)).setCell ⟨w.heap.size + 1 + 1, 4, none⟩ (.int .i64 room)).setCell ⟨w.heap.size + 1 + 1, 5, none⟩ (.slice a1 its.length c1)).setCell ⟨w.heap.size + 1 + 1, 6, none⟩ (.slice b1 ts.length d1)).cell? ⟨w.heap.size, 7, none⟩ = some (.slice aq ps.length cq) := M1.cell 7
  have hs4 := G4.size
  have HK4 := hid K4
  have HM2 := hid M2
  have HMB := hid MB
  have HMS := hid MS
  have HG4 := hid G4
  have HLI := hid fun g (e : (Value.slice a1 its.length c1).ownBlock = some g) => so1.items.lt g e
  have HLP := hid fun g (e : (Value.slice b1 ts.length d1).ownBlock = some g) => so1.pins.lt g e
  have HTP4 := hid (HTP.out _ (HQ.out.below MB))
  clear K1 K2 K3 K4 M1 M2 MB MS N1 N2 N3 B1 so1 oi1 op1 hap1 hb1 G4 HTP
  go_wp2_with fail
  obtain ⟨w4, hw4⟩ : ∃ w4, w4 = ((((w1.setCell ⟨w.heap.size + 1 + 1, 3, none⟩ (.int .i64 wd)).setCell ⟨w.heap.size + 1 + 1, 4, none⟩ (.int .i64 room)).setCell ⟨w.heap.size + 1 + 1, 5, none⟩ (.slice a1 its.length c1)).setCell ⟨w.heap.size + 1 + 1, 6, none⟩ (.slice b1 ts.length d1)) := ⟨_, rfl⟩
  rw [← hw4] at HK4 HM2 HMB HMS HG4 HTP4 hs4 ⊢
  clear u0 u1 u2 u3 r0 r1 r2 r3 y7 hw4
  refine HTP4.out.mono ?_
  rintro e w5 ⟨v5, qs, rfl, hqs, po5, hb5⟩
  obtain ⟨a5, c5, rfl⟩ := row_any po5.row
  have hql : qs.length = ps.length := by rw [← hqs, List.length_map]
  have HQS := hid hqs
  rw [hql] at po5
  rw [hql]
  have K5 := HK4.out.below hb5
  have M5 := HM2.out.below hb5
  have B5 := HMB.out.trans (hb5.mono HMB.out.size)
  have S5 := HMS.out.below hb5
  have x7 : w5.cell? ⟨w.heap.size + 1 + 1, 7, none⟩ = some (.slice none 0 0) := K5.cell 7
  have x8 := K5.fz 7
  have K6 : Blk (w5.setCell ⟨w.heap.size + 1 + 1, 7, none⟩ (.slice a5 ps.length c5)) (w.heap.size + 1 + 1) 37 #[.string nm, .int .i64 now, .bool full, .int .i64 wd, .int .i64 room, .slice a1 its.length c1, .slice b1 ts.length d1, .slice a5 ps.length c5] := K5.set 7 (.slice a5 ps.length c5)
  have g6 := grownBy_setCellAt w5 (w.heap.size + 1 + 1) 7 (.slice a5 ps.length c5)
  have M6 := M5.kept g6 (fun e => hne2 (Option.some.inj e))
  have B6 := B5.setCell (p := ⟨w.heap.size + 1 + 1, 7, none⟩) (by simp; omega) (.slice a5 ps.length c5)
  have l0 : (w5.setCell ⟨w.heap.size + 1 + 1, 7, none⟩ (.slice a5 ps.length c5)).cell? ⟨w.heap.size + 1 + 1, 0, none⟩ = some (.string nm) := K6.cell 0
  have l1 : (w5.setCell ⟨w.heap.size + 1 + 1, 7, none⟩ (.slice a5 ps.length c5)).cell? ⟨w.heap.size + 1 + 1, 1, none⟩ = some (.int .i64 now) := K6.cell 1
  have l2 : (w5.setCell ⟨w.heap.size + 1 + 1, 7, none⟩ (.slice a5 ps.length c5)).cell? ⟨w.heap.size + 1 + 1, 2, none⟩ = some (.bool full) := K6.cell 2
  have l3 : (w5.setCell ⟨w.heap.size + 1 + 1, 7, none⟩ (.slice a5 ps.length c5)).cell? ⟨w.heap.size + 1 + 1, 3, none⟩ = some (.int .i64 wd) := K6.cell 3
  have l4 : (w5.setCell ⟨w.heap.size + 1 + 1, 7, none⟩ (.slice a5 ps.length c5)).cell? ⟨w.heap.size + 1 + 1, 4, none⟩ = some (.int .i64 room) := K6.cell 4
  have l5 : (w5.setCell ⟨w.heap.size + 1 + 1, 7, none⟩ (.slice a5 ps.length c5)).cell? ⟨w.heap.size + 1 + 1, 5, none⟩ = some (.slice a1 its.length c1) := K6.cell 5
  have l6 : (w5.setCell ⟨w.heap.size + 1 + 1, 7, none⟩ (.slice a5 ps.length c5)).cell? ⟨w.heap.size + 1 + 1, 6, none⟩ = some (.slice b1 ts.length d1) := K6.cell 6
  have l7 : (w5.setCell ⟨w.heap.size + 1 + 1, 7, none⟩ (.slice a5 ps.length c5)).cell? ⟨w.heap.size + 1 + 1, 7, none⟩ = some (.slice a5 ps.length c5) := K6.cell 7
  obtain ⟨q0, k0, q1, k1, q2, k2, q3, k3, q4, k4, q5, k5, q6, k6, q7, k7⟩ := M6.store8 (.string nm) (.int .i64 now) (.bool full) (.int .i64 wd) (.int .i64 room) (.slice a1 its.length c1) (.slice b1 ts.length d1) (.slice a5 ps.length c5)
  have Z := hid (M6.set8 (.string nm) (.int .i64 now) (.bool full) (.int .i64 wd) (.int .i64 room) (.slice a1 its.length c1) (.slice b1 ts.length d1) (.slice a5 ps.length c5))
  have g8 := grown_set8 (w5.setCell ⟨w.heap.size + 1 + 1, 7, none⟩ (.slice a5 ps.length c5)) (w.heap.size + 1) (.string nm) (.int .i64 now) (.bool full) (.int .i64 wd) (.int .i64 room) (.slice a1 its.length c1) (.slice b1 ts.length d1) (.slice a5 ps.length c5)
  have BB := hid (below_set8 B6 (b := w.heap.size + 1) (by omega) (Nat.le_refl _) (.string nm) (.int .i64 now) (.bool full) (.int .i64 wd) (.int .i64 room) (.slice a1 its.length c1) (.slice b1 ts.length d1) (.slice a5 ps.length c5))
  have S8 := (S5.kept g6 (by omega)).kept g8 (by omega)
  have hs5 := hb5.size
  have P8 := ((po5.kept g6 (by omega)).kept g8 (by omega)).base (show w.heap.size + 3 ≤ _ by omega)
  have hpl := po5.lt
  have FO : Hid (FetchOwn (set8 (w5.setCell ⟨w.heap.size + 1 + 1, 7, none⟩ (.slice a5 ps.length c5)) (w.heap.size + 1) (.string nm) (.int .i64 now) (.bool full) (.int .i64 wd) (.int .i64 room) (.slice a1 its.length c1) (.slice b1 ts.length d1) (.slice a5 ps.length c5)) (w.heap.size + 3) (.slice a1 its.length c1) (.slice b1 ts.length d1) (.slice a5 ps.length c5) its ts qs) :=
    ⟨S8.base (by omega), P8, fun g e h => by have h1 := (HLI.out g e).2; have h2 := (hpl g h).1; omega, fun g e h => by have h1 := (HLP.out g e).2; have h2 := (hpl g h).1; omega⟩
  have OI : Hid (OwnI (set8 (w5.setCell ⟨w.heap.size + 1 + 1, 7, none⟩ (.slice a5 ps.length c5)) (w.heap.size + 1) (.string nm) (.int .i64 now) (.bool full) (.int .i64 wd) (.int .i64 room) (.slice a1 its.length c1) (.slice b1 ts.length d1) (.slice a5 ps.length c5)) (w.heap.size + 3) (.slice a1 its.length c1) its) := by
    obtain ⟨g, e, hg, hG⟩ := HOI1.out
    have hgl := hG.lt
    have h4 := (hG.kept HG4.out (fun e => by have := Option.some.inj e; omega)).below hb5
    exact ⟨g, e, by omega, (h4.kept g6 (fun e => by have := Option.some.inj e; omega)).kept g8 (fun e => by have := Option.some.inj e; omega)⟩
  clear K5 K6 M5 M6 B5 B6 S5 S8 P8 po5 hb5 g6 g8 hpl hqs
  go_wp2
  rw [set8_def]
  refine bodyPost_ret (v := fval nm now full wd room (.slice a1 its.length c1) (.slice b1 ts.length d1) (.slice a5 ps.length c5)) (by simp [results, Tryz.results8, go_sem, Z.out.cell]) rfl ⟨_, _, _, qs, rfl, HQS.out, FO.out, OI.out, BB.out⟩
end Go.Proofs.YtiipaeieofbdpaaGreatDoor
/- Fetches as arguments: how large they are. -/
namespace Go.Proofs.YtiipaeieofbdpaaGreatDoor
open Go.RowKit
set_option maxRecDepth 100000 in
set_option maxHeartbeats 400000 in
theorem szPeer_any (a b c : Int) (s : ByteArray) (v : Value) (ts : List ByteArray) (L : Nat) (w : World) (hv : Reads w v ts) (hs : s.size ≤ maxLen) (hl : ts.length ≤ maxLen) (hsz : ∀ i, (tv ts i).size ≤ maxLen) (hL : L ≤ 1048576) :
    Calls Tryz.prog 52 #[.agg #[.int .i64 a, .int .i64 b, .int .i64 c, .string s, v], .int .i64 L] w fun e w' => ∃ r : Int, e = .returned (.int .i64 r) ∧ r ≤ L ∧ (0 ≤ r → s.size ≤ L ∧ ts.length ≤ L ∧ ∀ i, (tv ts i).size ≤ L) ∧ Below w.heap.size w w' := by
  unfold maxLen at hs
  have hA := (Below.refl w.heap.size w).alloc (Nat.le_refl _) (.cells #[.int .i64 a, .int .i64 b, .int .i64 c, .string s, v] 95)
  have HS := hid fun (K : Nat) (hK : K ≤ 1048576) => szStrs_any v ts K _ (hv.below hA) hl hsz hK
  have HA := hid hA
  obtain ⟨av, cv, rfl, _⟩ := hv.form
  clear hv hA hsz
  by_cases h1 : L < s.size
  · have h1' : (L : Int) - (s.size : Int) < 0 := by omega
    go_enter Tryz.func52, Tryz.ntmps52
    go_wp2
    go_ret
    exact ⟨-1, rfl, by omega, fun h => by omega, HA.out⟩
  · have h1' : ¬ ((L : Int) - (s.size : Int) < 0) := by omega
    have h2 : IntKind.i64.wrap ((L : Int) - (s.size : Int)) = ((L - s.size : Nat) : Int) := by rw [IntKind.wrap_i64]; omega
    have h3 : (L : Int) - (s.size : Int) = ((L - s.size : Nat) : Int) := by omega
    have HS1 := hid (HS.out (L - s.size) (by omega))
    rw [← h3] at HS1
    clear h2 h3
    go_enter Tryz.func52, Tryz.ntmps52
    go_wp2_with fail
    refine HS1.out.mono ?_
    rintro e w1 ⟨r, rfl, hr1, hr, rfl⟩
    have HR := hid hr
    clear hr
    by_cases h0 : r < 0
    · go_wp2
      go_ret
      exact ⟨-1, rfl, by omega, fun h => by omega, HA.out⟩
    · go_wp2
      go_ret
      exact ⟨r, rfl, by omega, fun h => ⟨by omega, by have := (HR.out h).1; omega, fun i => by have := (HR.out h).2 i; omega⟩, HA.out⟩
set_option maxRecDepth 100000 in
set_option maxHeartbeats 1000000 in
theorem szPeerS_any (v : Value) (ps : Prs) (L : Nat) (w : World) (hv : RdP w v ps) (hl : ps.length ≤ maxLen) (hf : PsFit maxLen ps) (hL : L ≤ 1048576) :
    Calls Tryz.prog 23 #[v, .int .i64 L] w fun e w' => ∃ r : Int, e = .returned (.int .i64 r) ∧ r ≤ L ∧ (0 ≤ r → ps.length ≤ L ∧ PsFit L ps) ∧ Below w.heap.size w w' := by
  unfold maxLen at hl
  obtain ⟨a, ca, rfl, hca⟩ := hv
  by_cases h1 : L < ps.length
  · have h1' : (L : Int) - (ps.length : Int) < 0 := by omega
    go_enter Tryz.func23, Tryz.ntmps23
    go_wp2
    go_ret
    exact ⟨-1, rfl, by omega, fun h => by omega, Below.refl _ _⟩
  · have h1' : ¬ ((L : Int) - (ps.length : Int) < 0) := by omega
    have HC := hid hca
    have HF := hid hf
    clear hca hf
    go_enter Tryz.func23, Tryz.ntmps23
    go_wp2
    go_loopw [1, 5] (fun l' i' wr => ∃ l i : Nat, i ≤ ps.length ∧ i' = .int .i64 i ∧ l' = .int .i64 l ∧ l ≤ L ∧ (∀ k, k < i → PrFits L (pat ps k)) ∧ Below w.heap.size w wr) (fun _ i' _ => ps.length - (intOf i').toNat)
    case atStart => exact ⟨L - ps.length, 0, Nat.zero_le _, rfl, by go_num, by omega, fun k hk => by omega, Below.refl _ _⟩
    case round =>
      obtain ⟨l, i, hi, rfl, rfl, hll, hs, hb⟩ := hrel
      have HS := hid hs
      clear hs
      by_cases hil : i < ps.length
      · obtain ⟨b, o, vn, rfl, h5⟩ := HC.out i hil
        have g5 := h5.below hb
        have hfi := HF.out i hil
        have HZI := hid fun W h => szPeer_any (pat ps i).lies (pat ps i).wait (pat ps i).last (pat ps i).asked vn (pat ps i).nots l W h hfi.asked hfi.nots hfi.each (by omega)
        obtain ⟨x0, x1, x2, x3, x4, x5, x6⟩ := g5
        have HX6 := hid x6
        obtain ⟨a4, c4, hvn, _⟩ := x6.form
        have hpf : Hid (∀ n, (pat ps i).asked.size ≤ n → (pat ps i).nots.length ≤ n → (∀ j, (tv (pat ps i).nots j).size ≤ n) → PrFits n (pat ps i)) := fun n a b c => ⟨a, b, c⟩
        have HB := hid hb
        generalize (pat ps i).lies = zl at *
        generalize (pat ps i).wait = zw at *
        generalize (pat ps i).last = zt at *
        generalize (pat ps i).asked = za at *
        generalize (pat ps i).nots = zn at *
        subst hvn
        clear h5 x6 hb hfi
        go_wp2_with fail
        refine (HZI.out _ HX6.out).mono ?_
        rintro e w1 ⟨r, rfl, hr1, hr, hb1⟩
        have hb2 := hid (HB.out.trans (hb1.mono HB.out.size))
        have HR := hid hr
        clear hb1 hr
        by_cases h0 : r < 0
        · go_wp2
          go_ret
          exact ⟨-1, rfl, by omega, fun h => by omega, hb2.out⟩
        · obtain ⟨l2, rfl⟩ := Int.eq_ofNat_of_zero_le (show 0 ≤ r by omega)
          go_wp2
          refine ⟨⟨l2, i + 1, by omega, by go_num, rfl, by omega, fun k hk => (Nat.lt_or_eq_of_le (Nat.le_of_lt_succ hk)).elim (HS.out k) (fun e => ?_), hb2.out⟩, by simp [intOf]; omega⟩
          have h9 := HR.out (by omega)
          subst e
          exact hpf.out L (by omega) (by omega) (fun j => by have := h9.2.2 j; omega)
      · obtain rfl : i = ps.length := by omega
        go_wp2
        go_ret
        exact ⟨_, rfl, by omega, fun _ => ⟨by omega, HS.out⟩, hb⟩
set_option maxRecDepth 100000 in
set_option maxHeartbeats 400000 in
theorem szStoreL_any (wd room : Int) (vi vp : Value) (its : Itms) (ts : List ByteArray) (K : Nat) (w : World) (hi : RdI w vi its) (hp : Reads w vp ts) (hli : its.length ≤ maxLen) (hlp : ts.length ≤ maxLen) (hsi : ∀ i, (itx its i).size ≤ maxLen) (hsp : ∀ i, (tv ts i).size ≤ maxLen) (hK : K ≤ 1048576) :
    Calls Tryz.prog 22 #[.agg #[.int .i64 wd, .int .i64 room, vi, vp], .int .i64 K] w fun e w' => ∃ r : Int, e = .returned (.int .i64 r) ∧ r ≤ K ∧ (0 ≤ r → its.length ≤ K ∧ (∀ i, (itx its i).size ≤ K) ∧ ts.length ≤ K ∧ ∀ i, (tv ts i).size ≤ K) ∧ Below w.heap.size w w' := by
  have hA := (Below.refl w.heap.size w).alloc (Nat.le_refl _) (.cells #[.int .i64 wd, .int .i64 room, vi, vp] 25)
  have HI := hid (szItemS_any vi its K _ (hi.below hA) hli hsi hK)
  have HP := hid fun (L : Nat) (hL : L ≤ 1048576) W h => szStrs_any vp ts L W h hlp hsp hL
  have HRP := hid (hp.below hA)
  have HN := hid (Blk.new w 25 #[.int .i64 wd, .int .i64 room, vi, vp])
  have HA := hid hA
  obtain ⟨ai, ci, rfl, _⟩ := hi
  obtain ⟨ap, cp, rfl, _⟩ := hp.form
  clear hp hsi hsp hA
  go_enter Tryz.func22, Tryz.ntmps22
  go_wp2_with fail
  refine HI.out.mono ?_
  rintro e w1 ⟨r, rfl, hr1, hr, hb1⟩
  have B1 := HA.out.trans (hb1.mono (by simp))
  by_cases h0 : r < 0
  · clear hr
    have HB := hid B1
    clear hb1 B1
    go_wp2
    go_ret
    exact ⟨-1, rfl, by omega, fun h => by omega, HB.out⟩
  · obtain ⟨hl1, hs1⟩ := hr (by omega)
    obtain ⟨L, rfl⟩ := Int.eq_ofNat_of_zero_le (show 0 ≤ r by omega)
    have HP1 := hid (HP.out L (by omega) w1 (HRP.out.below hb1))
    have N1 := HN.out.below hb1
    have c3 : w1.cell? ⟨w.heap.size, 3, none⟩ = some (.slice ap ts.length cp) := N1.cell 3
    have HB := hid B1
    have HL1 := hid hl1
    have HS1 := hid hs1
    clear hb1 B1 hr hl1 hs1 N1
    go_wp2_with fail
    refine HP1.out.mono ?_
    rintro e w2 ⟨r2, rfl, hr2, hrr, rfl⟩
    have HRR := hid hrr
    clear hrr
    by_cases h2 : r2 < 0
    · go_wp2
      go_ret
      exact ⟨-1, rfl, by omega, fun h => by omega, HB.out⟩
    · go_wp2
      go_ret
      exact ⟨r2, rfl, by omega, fun h => ⟨HL1.out, HS1.out, Nat.le_trans (HRR.out h).1 (by omega), fun i => Nat.le_trans ((HRR.out h).2 i) (by omega)⟩, HB.out⟩
set_option maxRecDepth 100000 in
set_option maxHeartbeats 1000000 in
theorem szFetch_any (nm : ByteArray) (now : Int) (full : Bool) (wd room : Int) (vi vp vq : Value) (its : Itms) (ts : List ByteArray) (ps : Prs) (w : World) (hi : RdI w vi its) (hp : Reads w vp ts) (hq : RdP w vq ps) (hnm : nm.size ≤ maxLen) (hli : its.length ≤ maxLen) (hlp : ts.length ≤ maxLen) (hlq : ps.length ≤ maxLen) (hsi : ∀ i, (itx its i).size ≤ maxLen) (hsp : ∀ i, (tv ts i).size ≤ maxLen) (hf : PsFit maxLen ps) :
    Calls Tryz.prog 6 #[fval nm now full wd room vi vp vq, .int .i64 1048576] w fun e w' => ∃ r : Int, e = .returned (.int .i64 r) ∧ (0 ≤ r → nm.size ≤ 1048576 ∧ its.length ≤ 1048576 ∧ (∀ i, (itx its i).size ≤ 1048576) ∧ ts.length ≤ 1048576 ∧ (∀ i, (tv ts i).size ≤ 1048576) ∧ ps.length ≤ 1048576 ∧ PsFit 1048576 ps) ∧ Below w.heap.size w w' := by
  unfold maxLen at hnm
  have hA := (Below.refl w.heap.size w).alloc (Nat.le_refl _) (.cells (fcells nm now full wd room vi vp vq) 28)
  have HS := hid fun (K : Nat) (hK : K ≤ 1048576) => szStoreL_any wd room vi vp its ts K _ (hi.below hA) (hp.below hA) hli hlp hsi hsp hK
  have HP := hid fun (K : Nat) (hK : K ≤ 1048576) W h => szPeerS_any vq ps K W h hlq hf hK
  have HQ := hid (hq.below hA)
  have HN := hid (Blk.new w 28 (fcells nm now full wd room vi vp vq))
  have HA := hid hA
  obtain ⟨ai, ci, rfl, _⟩ := hi
  obtain ⟨ap, cp, rfl, _⟩ := hp.form
  obtain ⟨aq, cq, rfl, _⟩ := hq
  clear hp hsi hsp hA hf
  by_cases h1 : 1048576 < nm.size
  · have h1' : (1048576 : Int) - (nm.size : Int) < 0 := by omega
    go_enter Tryz.func6, Tryz.ntmps6
    go_wp2
    go_ret
    exact ⟨-1, rfl, fun h => by omega, HA.out⟩
  have h1' : ¬ ((1048576 : Int) - (nm.size : Int) < 0) := by omega
  have h3 : (1048576 : Int) - (nm.size : Int) = ((1048576 - nm.size : Nat) : Int) := by omega
  have HS1 := hid (HS.out (1048576 - nm.size) (by omega))
  rw [← h3] at HS1
  clear h3 HS
  go_enter Tryz.func6, Tryz.ntmps6
  go_wp2_with fail
  refine HS1.out.mono ?_
  rintro e w1 ⟨r, rfl, hr1, hr, hb1⟩
  have B1 := HA.out.trans (hb1.mono (by simp))
  have HR := hid hr
  by_cases h0 : r < 0
  · have HB := hid B1
    clear hb1 B1 hr
    go_wp2
    go_ret
    exact ⟨-1, rfl, fun h => by omega, HB.out⟩
  obtain ⟨L, rfl⟩ := Int.eq_ofNat_of_zero_le (show 0 ≤ r by omega)
  have HP1 := hid (HP.out L (by omega) w1 (HQ.out.below hb1))
  have N1 := HN.out.below hb1
  have c7 : w1.cell? ⟨w.heap.size, 7, none⟩ = some (.slice aq ps.length cq) := N1.cell 7
  have HB := hid B1
  clear hb1 B1 hr N1
  go_wp2_with fail
  refine HP1.out.mono ?_
  rintro e w2 ⟨r2, rfl, hr2, hrr, hb2⟩
  have HRR := hid hrr
  have HB2 := hid (HB.out.trans (hb2.mono HB.out.size))
  clear hrr hb2
  by_cases h2 : r2 < 0
  · go_wp2
    go_ret
    exact ⟨-1, rfl, fun h => by omega, HB2.out⟩
  · go_wp2
    go_ret
    refine ⟨r2, rfl, fun h => ?_, HB2.out⟩
    have g := HR.out (by omega)
    have k := HRR.out h
    exact ⟨by omega, by omega, fun i => by have := g.2.1 i; omega, by omega, fun i => by have := g.2.2.2 i; omega, by omega, fun i hi => ⟨Nat.le_trans (k.2 i hi).asked (by omega), Nat.le_trans (k.2 i hi).nots (by omega), fun j => Nat.le_trans ((k.2 i hi).each j) (by omega)⟩⟩
end Go.Proofs.YtiipaeieofbdpaaGreatDoor
/- laws.FnExactFetchDone, walked. -/
namespace Go.Proofs.YtiipaeieofbdpaaGreatDoor
open Go.RowKit
set_option maxRecDepth 100000 in
set_option maxHeartbeats 4000000 in
theorem doneLaw_walk (nm : ByteArray) (now : Int) (full : Bool) (wd room : Int) (vi vp vq : Value) (its : Itms) (ts : List ByteArray) (ps : Prs) (w : World) (hi : RdI w vi its) (hp : Reads w vp ts) (hq : RdP w vq ps) (hnm : nm.size ≤ maxLen) (hli : its.length ≤ maxLen) (hlp : ts.length ≤ maxLen) (hlq : ps.length ≤ maxLen) (hsi : ∀ i, (itx its i).size ≤ maxLen) (hsp : ∀ i, (tv ts i).size ≤ maxLen) (hf : PsFit maxLen ps) (hE : Errs w) :
    Calls Tryz.prog 3 #[fval nm now full wd room vi vp vq] w fun e w' => e = .returned (.bool true) ∧ Below w.heap.size w w' := by
  have hA := (Below.refl w.heap.size w).alloc (Nat.le_refl _) (.cells (fcells nm now full wd room vi vp vq) 28)
  have HZ := hid (szFetch_any nm now full wd room vi vp vq its ts ps _ (hi.below hA) (hp.below hA) (hq.below hA) hnm hli hlp hlq hsi hsp hf)
  have HN := hid (Blk.new w 28 (fcells nm now full wd room vi vp vq))
  have HI := hid hi
  have HP := hid hp
  have HQ := hid hq
  have HA := hid hA
  obtain ⟨ai, ci, rfl, _⟩ := hi
  obtain ⟨ap, cp, rfl, _⟩ := hp.form
  obtain ⟨aq, cq, rfl, _⟩ := hq
  have HFM := hid hf
  have HER := hid hE
  clear hp hA hsi hsp hf hnm hE
  go_enter Tryz.func3, Tryz.ntmps3
  go_wp2_with fail
  refine HZ.out.mono ?_
  rintro e w1 ⟨r, rfl, hr, hb1⟩
  have B1 := HA.out.trans (hb1.mono (by simp))
  have X1 := HN.out.below hb1
  by_cases hneg : r < 0
  · have HB := hid B1
    clear hr hb1 B1 X1
    go_wp2
    go_ret
    exact ⟨by simp, HB.out⟩
  · obtain ⟨l0, l1, s1, l2, s2, l3, ff⟩ := hr (by omega)
    have HT := hid fun W h k l => toFetch_any nm now full wd room (.slice ai its.length ci) (.slice ap ts.length cp) (.slice aq ps.length cq) its ts ps W h k l l1 l2 l3 ff
    have HS := hid fun a b c W h k l => specFetchDone_any nm now full wd room a b c its ts ps W h k l l1 l2 l3 s1 s2 ff
    have HM := hid fun a b c W h k l (e : Errs W) => implFetchDone_any nm now full wd room a b c its ts ps W h k l l0 l1 l2 l3 s1 s2 ff e
    have HE := hid fun a b c d e f W h1 h2 h3 h4 h5 h6 => eqFetch_any nm now full wd room a b c d e f its ts ps W h1 h2 h3 h4 h5 h6 hli hlp hlq HFM.out
    clear hr hb1 s1 s2 HZ ff
    have x0 : w1.cell? ⟨w.heap.size, 0, none⟩ = some (.string nm) := X1.cell 0
    have x1 : w1.cell? ⟨w.heap.size, 1, none⟩ = some (.int .i64 now) := X1.cell 1
    have x2 : w1.cell? ⟨w.heap.size, 2, none⟩ = some (.bool full) := X1.cell 2
    have x3 : w1.cell? ⟨w.heap.size, 3, none⟩ = some (.int .i64 wd) := X1.cell 3
    have x4 : w1.cell? ⟨w.heap.size, 4, none⟩ = some (.int .i64 room) := X1.cell 4
    have x5 : w1.cell? ⟨w.heap.size, 5, none⟩ = some (.slice ai its.length ci) := X1.cell 5
    have x6 : w1.cell? ⟨w.heap.size, 6, none⟩ = some (.slice ap ts.length cp) := X1.cell 6
    have x7 : w1.cell? ⟨w.heap.size, 7, none⟩ = some (.slice aq ps.length cq) := X1.cell 7
    go_wp2_with fail
    refine (HT.out _ (HI.out.below B1) (HP.out.below B1) (HQ.out.below B1)).mono ?_
    rintro e w2 ⟨i2, p2, q2, qs2, rfl, hqs2, fo2, _, hb2⟩
    have B2 := B1.trans (hb2.mono B1.size)
    have X2 := X1.below hb2
    have Q2 := fo2.peers.rdp
    rw [hqs2] at Q2
    clear x0 x1 x2 x3 x4 x5 x6 x7 X1 hb2 B1
    go_wp2_with fail
    refine (HS.out i2 p2 q2 _ fo2.store.rdi (Reads.of_row fo2.store.pins) Q2).mono ?_
    rintro e w3 ⟨r3, rfl, hr3, hbl3⟩
    obtain ⟨x3, b3, rfl⟩ := hr3.form
    have HRS := hid hr3
    clear hr3
    have B3 := B2.trans (hbl3.mono B2.size)
    have X3 := X2.below hbl3
    clear fo2 hqs2 Q2 hbl3 X2 B2
    have x0 : w3.cell? ⟨w.heap.size, 0, none⟩ = some (.string nm) := X3.cell 0
    have x1 : w3.cell? ⟨w.heap.size, 1, none⟩ = some (.int .i64 now) := X3.cell 1
    have x2 : w3.cell? ⟨w.heap.size, 2, none⟩ = some (.bool full) := X3.cell 2
    have x3 : w3.cell? ⟨w.heap.size, 3, none⟩ = some (.int .i64 wd) := X3.cell 3
    have x4 : w3.cell? ⟨w.heap.size, 4, none⟩ = some (.int .i64 room) := X3.cell 4
    have x5 : w3.cell? ⟨w.heap.size, 5, none⟩ = some (.slice ai its.length ci) := X3.cell 5
    have x6 : w3.cell? ⟨w.heap.size, 6, none⟩ = some (.slice ap ts.length cp) := X3.cell 6
    have x7 : w3.cell? ⟨w.heap.size, 7, none⟩ = some (.slice aq ps.length cq) := X3.cell 7
    go_wp2_with fail
    refine (HT.out _ (HI.out.below B3) (HP.out.below B3) (HQ.out.below B3)).mono ?_
    rintro e w4 ⟨i4, p4, q4, qs4, rfl, hqs4, fo4, _, hb4⟩
    have B4 := B3.trans (hb4.mono B3.size)
    have X4 := X3.below hb4
    clear x0 x1 x2 x3 x4 x5 x6 x7 X3 hb4 B3
    obtain ⟨a4, c4, rfl⟩ := row_any fo4.store.items
    obtain ⟨b4, d4, rfl⟩ := row_any fo4.store.pins
    obtain ⟨e4, f4, hv4⟩ := row_any fo4.peers.row
    have hql : qs4.length = ps.length := by rw [← hqs4, List.length_map]
    rw [hql] at hv4
    subst hv4
    have Q4 := fo4.peers.rdp
    rw [hqs4] at Q4
    have Y4 := Blk.new w4 37 #[.string nm, .int .i64 now, .bool full, .int .i64 wd, .int .i64 room, .slice a4 its.length c4, .slice b4 ts.length d4, .slice e4 ps.length f4]
    have hbn := (Below.refl w4.heap.size w4).alloc (Nat.le_refl _) (.cells #[.string nm, .int .i64 now, .bool full, .int .i64 wd, .int .i64 room, .slice a4 its.length c4, .slice b4 ts.length d4, .slice e4 ps.length f4] 37)
    have HI4 := hid (fo4.store.rdi.below hbn)
    have HP4 := hid ((Reads.of_row fo4.store.pins).below hbn)
    have HQ4 := hid (Q4.below hbn)
    have HB4 := hid (B4.trans (hbn.mono B4.size))
    have HX4 := hid (X4.alloc (.cells #[.string nm, .int .i64 now, .bool full, .int .i64 wd, .int .i64 room, .slice a4 its.length c4, .slice b4 ts.length d4, .slice e4 ps.length f4] 37))
    have HY4 := hid Y4
    clear fo4 hqs4 hql Q4 X4 Y4 B4 hbn
    go_wp2_with fail
    refine (HM.out _ _ _ _ HI4.out HP4.out HQ4.out (HER.out.below HB4.out)).mono ?_
    rintro e w5 ⟨r5, rfl, hr5, hbl5⟩
    obtain rfl := hr5.uniq HRS.out
    have X5 := HX4.out.below hbl5
    have Y5 := HY4.out.below hbl5
    have HB5 := hid (HB4.out.trans (hbl5.mono HB4.out.size))
    have HI5 := hid (HI4.out.below hbl5)
    have HP5 := hid (HP4.out.below hbl5)
    have HQ5 := hid (HQ4.out.below hbl5)
    have HX5 := hid X5
    have HY5 := hid Y5
    clear hr5 hbl5 X5 Y5
    have hec := enters_of Tryz.func8 (by kernel_rfl) rfl
    have hec2 := enters_of Tryz.func10 (by kernel_rfl) rfl
    have hS0 : w5.drew.cell? ⟨w4.heap.size, 0, none⟩ = some (.string nm) ∧ w5.drew.cell? ⟨w4.heap.size, 1, none⟩ = some (.int .i64 now) ∧ w5.drew.cell? ⟨w4.heap.size, 2, none⟩ = some (.bool full) ∧ w5.drew.cell? ⟨w4.heap.size, 3, none⟩ = some (.int .i64 wd) ∧ w5.drew.cell? ⟨w4.heap.size, 4, none⟩ = some (.int .i64 room) ∧ w5.drew.cell? ⟨w4.heap.size, 5, none⟩ = some (.slice a4 its.length c4) ∧ w5.drew.cell? ⟨w4.heap.size, 6, none⟩ = some (.slice b4 ts.length d4) ∧ w5.drew.cell? ⟨w4.heap.size, 7, none⟩ = some (.slice e4 ps.length f4) ∧ w5.drew.cell? ⟨w.heap.size, 0, none⟩ = some (.string nm) ∧ w5.drew.cell? ⟨w.heap.size, 1, none⟩ = some (.int .i64 now) ∧ w5.drew.cell? ⟨w.heap.size, 2, none⟩ = some (.bool full) ∧ w5.drew.cell? ⟨w.heap.size, 3, none⟩ = some (.int .i64 wd) ∧ w5.drew.cell? ⟨w.heap.size, 4, none⟩ = some (.int .i64 room) ∧ w5.drew.cell? ⟨w.heap.size, 5, none⟩ = some (.slice ai its.length ci) ∧ w5.drew.cell? ⟨w.heap.size, 6, none⟩ = some (.slice ap ts.length cp) ∧ w5.drew.cell? ⟨w.heap.size, 7, none⟩ = some (.slice aq ps.length cq) := ⟨HY5.out.cell 0, HY5.out.cell 1, HY5.out.cell 2, HY5.out.cell 3, HY5.out.cell 4, HY5.out.cell 5, HY5.out.cell 6, HY5.out.cell 7, HX5.out.cell 0, HX5.out.cell 1, HX5.out.cell 2, HX5.out.cell 3, HX5.out.cell 4, HX5.out.cell 5, HX5.out.cell 6, HX5.out.cell 7⟩
    have hbd : Below w5.heap.size w5 w5.drew := below_drewN (Below.refl _ _) 1
    have HB5d := hid (HB5.out.trans (hbd.mono HB5.out.size))
    clear hbd
    go_wp2_with fail
    refine wp_region_held (S := fun w' => w'.cell? ⟨w4.heap.size, 0, none⟩ = some (.string nm) ∧ w'.cell? ⟨w4.heap.size, 1, none⟩ = some (.int .i64 now) ∧ w'.cell? ⟨w4.heap.size, 2, none⟩ = some (.bool full) ∧ w'.cell? ⟨w4.heap.size, 3, none⟩ = some (.int .i64 wd) ∧ w'.cell? ⟨w4.heap.size, 4, none⟩ = some (.int .i64 room) ∧ w'.cell? ⟨w4.heap.size, 5, none⟩ = some (.slice a4 its.length c4) ∧ w'.cell? ⟨w4.heap.size, 6, none⟩ = some (.slice b4 ts.length d4) ∧ w'.cell? ⟨w4.heap.size, 7, none⟩ = some (.slice e4 ps.length f4) ∧ w'.cell? ⟨w.heap.size, 0, none⟩ = some (.string nm) ∧ w'.cell? ⟨w.heap.size, 1, none⟩ = some (.int .i64 now) ∧ w'.cell? ⟨w.heap.size, 2, none⟩ = some (.bool full) ∧ w'.cell? ⟨w.heap.size, 3, none⟩ = some (.int .i64 wd) ∧ w'.cell? ⟨w.heap.size, 4, none⟩ = some (.int .i64 room) ∧ w'.cell? ⟨w.heap.size, 5, none⟩ = some (.slice ai its.length ci) ∧ w'.cell? ⟨w.heap.size, 6, none⟩ = some (.slice ap ts.length cp) ∧ w'.cell? ⟨w.heap.size, 7, none⟩ = some (.slice aq ps.length cq)) (by kernel_rfl) ?_
    change wpAnyH _ _ _ _ _ _ _ _ (World.drew _)
    refine wpAnyH_take (i := 0) (v := .agg #[.string nm, .int .i64 now, .bool full, .int .i64 wd, .int .i64 room, .slice a4 its.length c4, .slice b4 ts.length d4, .slice e4 ps.length f4]) rfl (by kernel_rfl) (by kernel_rfl) (by kernel_rfl) (fun _ _ _ h => h) (.inl ⟨rfl, fun w' hS => by obtain ⟨s1, s2, s3, s4, s5, s6, s7, s8, s9, s10, s11, s12, s13, s14, s15, s16⟩ := hS; go_simp⟩) hS0 ?_
    refine wpAnyH_take (i := 1) (v := .agg #[.string nm, .int .i64 now, .bool full, .int .i64 wd, .int .i64 room, .slice ai its.length ci, .slice ap ts.length cp, .slice aq ps.length cq]) rfl (by kernel_rfl) (by kernel_rfl) (by kernel_rfl) (fun _ _ _ h => h) (.inl ⟨rfl, fun w' hS => by obtain ⟨s1, s2, s3, s4, s5, s6, s7, s8, s9, s10, s11, s12, s13, s14, s15, s16⟩ := hS; go_simp⟩) hS0 ?_
    refine held_one 2 (by kernel_rfl) (op_calls (f := 8) (args := #[.agg #[.string nm, .int .i64 now, .bool full, .int .i64 wd, .int .i64 room, .slice ai its.length ci, .slice ap ts.length cp, .slice aq ps.length cq]]) rfl rfl (by go_simp) (HT.out _ (HI.out.below HB5d.out) (HP.out.below HB5d.out) (HQ.out.below HB5d.out)) ?_)
    rintro e w7 ⟨i7, p7, q7, qs7, rfl, hqs7, fo7, _, hb7⟩
    have hb7' : Below w5.heap.size w5 w7 := ⟨hb7.os, hb7.tape, hb7.output, hb7.size, hb7.block⟩
    have V7 := HY5.out.below hb7'
    have X7 := HX5.out.below hb7'
    have hS1 : w7.cell? ⟨w4.heap.size, 0, none⟩ = some (.string nm) ∧ w7.cell? ⟨w4.heap.size, 1, none⟩ = some (.int .i64 now) ∧ w7.cell? ⟨w4.heap.size, 2, none⟩ = some (.bool full) ∧ w7.cell? ⟨w4.heap.size, 3, none⟩ = some (.int .i64 wd) ∧ w7.cell? ⟨w4.heap.size, 4, none⟩ = some (.int .i64 room) ∧ w7.cell? ⟨w4.heap.size, 5, none⟩ = some (.slice a4 its.length c4) ∧ w7.cell? ⟨w4.heap.size, 6, none⟩ = some (.slice b4 ts.length d4) ∧ w7.cell? ⟨w4.heap.size, 7, none⟩ = some (.slice e4 ps.length f4) ∧ w7.cell? ⟨w.heap.size, 0, none⟩ = some (.string nm) ∧ w7.cell? ⟨w.heap.size, 1, none⟩ = some (.int .i64 now) ∧ w7.cell? ⟨w.heap.size, 2, none⟩ = some (.bool full) ∧ w7.cell? ⟨w.heap.size, 3, none⟩ = some (.int .i64 wd) ∧ w7.cell? ⟨w.heap.size, 4, none⟩ = some (.int .i64 room) ∧ w7.cell? ⟨w.heap.size, 5, none⟩ = some (.slice ai its.length ci) ∧ w7.cell? ⟨w.heap.size, 6, none⟩ = some (.slice ap ts.length cp) ∧ w7.cell? ⟨w.heap.size, 7, none⟩ = some (.slice aq ps.length cq) := ⟨V7.cell 0, V7.cell 1, V7.cell 2, V7.cell 3, V7.cell 4, V7.cell 5, V7.cell 6, V7.cell 7, X7.cell 0, X7.cell 1, X7.cell 2, X7.cell 3, X7.cell 4, X7.cell 5, X7.cell 6, X7.cell 7⟩
    have Q7 := fo7.peers.rdp
    rw [hqs7] at Q7
    have HEQ := hid (HE.out _ _ _ i7 p7 q7 w7 (HI5.out.below hb7') (HP5.out.below hb7') (HQ5.out.below hb7') fo7.store.rdi (Reads.of_row fo7.store.pins) Q7)
    have HB7 := hid (HB5.out.trans (hb7'.mono HB5.out.size))
    refine ⟨_, rfl, hS1, ?_⟩
    refine held_one 3 (by kernel_rfl) (op_calls (f := 10) (args := #[.agg #[.string nm, .int .i64 now, .bool full, .int .i64 wd, .int .i64 room, .slice a4 its.length c4, .slice b4 ts.length d4, .slice e4 ps.length f4], fval nm now full wd room i7 p7 q7]) rfl rfl (by go_simp) HEQ.out ?_)
    rintro e w8 ⟨rfl, hb8⟩
    have V8 := V7.below hb8
    have X8 := X7.below hb8
    have hS2 : w8.cell? ⟨w4.heap.size, 0, none⟩ = some (.string nm) ∧ w8.cell? ⟨w4.heap.size, 1, none⟩ = some (.int .i64 now) ∧ w8.cell? ⟨w4.heap.size, 2, none⟩ = some (.bool full) ∧ w8.cell? ⟨w4.heap.size, 3, none⟩ = some (.int .i64 wd) ∧ w8.cell? ⟨w4.heap.size, 4, none⟩ = some (.int .i64 room) ∧ w8.cell? ⟨w4.heap.size, 5, none⟩ = some (.slice a4 its.length c4) ∧ w8.cell? ⟨w4.heap.size, 6, none⟩ = some (.slice b4 ts.length d4) ∧ w8.cell? ⟨w4.heap.size, 7, none⟩ = some (.slice e4 ps.length f4) ∧ w8.cell? ⟨w.heap.size, 0, none⟩ = some (.string nm) ∧ w8.cell? ⟨w.heap.size, 1, none⟩ = some (.int .i64 now) ∧ w8.cell? ⟨w.heap.size, 2, none⟩ = some (.bool full) ∧ w8.cell? ⟨w.heap.size, 3, none⟩ = some (.int .i64 wd) ∧ w8.cell? ⟨w.heap.size, 4, none⟩ = some (.int .i64 room) ∧ w8.cell? ⟨w.heap.size, 5, none⟩ = some (.slice ai its.length ci) ∧ w8.cell? ⟨w.heap.size, 6, none⟩ = some (.slice ap ts.length cp) ∧ w8.cell? ⟨w.heap.size, 7, none⟩ = some (.slice aq ps.length cq) := ⟨V8.cell 0, V8.cell 1, V8.cell 2, V8.cell 3, V8.cell 4, V8.cell 5, V8.cell 6, V8.cell 7, X8.cell 0, X8.cell 1, X8.cell 2, X8.cell 3, X8.cell 4, X8.cell 5, X8.cell 6, X8.cell 7⟩
    have HB8 := hid (HB7.out.trans (hb8.mono HB7.out.size))
    refine ⟨_, rfl, hS2, ?_⟩
    refine wpAnyH_take (i := 4) (v := .bool false) rfl (by kernel_rfl) (by kernel_rfl) (by kernel_rfl) (fun _ _ _ h => h) (.inl ⟨rfl, fun w' hS => by obtain ⟨s1, s2, s3, s4, s5, s6, s7, s8, s9, s10, s11, s12, s13, s14, s15, s16⟩ := hS; go_simp⟩) hS2 ?_
    refine wpAnyH_done (by kernel_rfl) ?_ _
    clear hS0 hS1 hS2 V7 X7 V8 X8 hb7 hb7' hb8 fo7 hqs7 Q7
    go_simp
    go_wp2
    go_ret
    exact ⟨by simp, HB8.out⟩
end Go.Proofs.YtiipaeieofbdpaaGreatDoor
