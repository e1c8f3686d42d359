/- Copies of rows of peers. -/
import Derived.Test.YtlnkhbnbcmllaaaGreatFetchTo
namespace Go.Proofs.YtlnkhbnbcmllaaaGreat
open Go.RowKit
set_option maxRecDepth 100000 in
set_option maxHeartbeats 2000000 in
theorem toPeerS_any (v : Value) (ps : Prs) (w : World) (hv : RdP w v ps) (hl : ps.length ≤ 1048576) (hf : PsFit 1048576 ps) :
    Calls Tryz.prog 24 #[v] w fun e w' => ∃ v' qs, e = .returned v' ∧ qs.map Prod.fst = ps ∧ PeersOwn w' w.heap.size v' qs ∧ Below w.heap.size w w' := by
  obtain ⟨i0, hi, hz0, hz1, hz2⟩ := info_parts Tryz.infoPeer
  obtain ⟨a, ca, rfl, hca⟩ := hv
  have HC := hid hca
  have HF := hid hf
  obtain ⟨M, hM⟩ : ∃ M, M = madeCells (Value.agg #[.int .i64 0, .int .i64 0, .int .i64 0, .string ⟨#[]⟩, .slice none 0 0]).cells (((ps.length : Nat) : Int).toNat * i0.size) := ⟨_, rfl⟩
  have hMs : M.size = ps.length * 5 := by rw [hM, size_madeCells, hz1]; simp
  have hMv : ∀ j, j < ps.length * 5 → ∃ x, M[j]? = some x := fun j hj => ⟨_, Array.getElem?_eq_getElem (by omega)⟩
  have hmk : ∀ W : World, (Instr.makeSlice 35 (.int .i64 (ps.length : Int)) (.int .i64 (ps.length : Int))).run Tryz.prog W = .ok (.slice (some ⟨W.heap.size, 0, none⟩) ps.length ps.length) (W.alloc (.cells M 81)) := fun W => by
    have h := run_make (P := Tryz.prog) W 35 81 i0 (.agg #[.int .i64 0, .int .i64 0, .int .i64 0, .string ⟨#[]⟩, .slice none 0 0]) Tryz.underlying35 hi hz0 .i64 .i64 (ps.length : Int) (ps.length : Int) (by omega) (by omega) (by rw [hz2]; omega) (by omega)
    rw [← hM] at h
    simpa using h
  clear hM hca hf
  have HMV := hid hMv
  clear hMv
  have HO := hid (Blk.new w 81 M)
  have HMS := hid hMs
  go_enter Tryz.func24, Tryz.ntmps24
  go_wp2
  go_loopw [4] (fun i' wr => ∃ (i : Nat) (qs : PV), i ≤ ps.length ∧ i' = .int .i64 i ∧ qs.map Prod.fst = ps.take i ∧ Blk wr w.heap.size 81 (cellsQ qs ++ M.toList.drop (i * 5)).toArray ∧ (∀ j, j < qs.length → wr.ownsRow (w.heap.size + 1) 9 1 (qv qs j) (qp qs j).nots.length ((qp qs j).nots.map Value.string)) ∧ (∀ x y, x < qs.length → y < qs.length → x ≠ y → ∀ g, (qv qs x).ownBlock = some g → (qv qs y).ownBlock ≠ some g) ∧ Below w.heap.size w wr ∧ w.heap.size + 1 ≤ wr.heap.size) (fun i' _ => ps.length - (intOf i').toNat)
  case atStart => exact ⟨0, [], Nat.zero_le _, rfl, rfl, by simpa [cellsQ] using HO.out, fun j hj => absurd hj (by simp), fun x y hx => absurd hx (by simp), (Below.refl _ _).alloc (Nat.le_refl _) _, by simp⟩
  case round =>
    obtain ⟨i, qs, hil, rfl, hqs, hr, hnr, hap, hb, hsz⟩ := hrel
    have hql : qs.length = i := by have := congrArg List.length hqs; simp at this; omega
    by_cases hlt : i < ps.length
    · obtain ⟨b, o, vn, rfl, h5⟩ := HC.out i hlt
      have g5 := h5.below hb
      have hfi := HF.out i hlt
      have HQS : Hid (∀ v', (qs ++ [(pat ps i, v')]).map Prod.fst = ps.take (i + 1)) := fun v' => by
        rw [List.map_append, hqs, List.take_succ_eq_append_getElem hlt]
        simp [pat, hlt]
      have HTP := hid fun W h => toPeer_any (pat ps i).lies (pat ps i).wait (pat ps i).last (pat ps i).asked vn (pat ps i).nots W h hfi.nots
      have HSET := hid fun v' => rowQ_set qs M.toList i hql (by simp; omega) (pat ps i) v'
      have HPA : Hid (∀ v' j, qp (qs ++ [(pat ps i, v')]) j = if j < i then qp qs j else if j = i then pat ps i else pr0) := fun v' j => by
        unfold qp
        rw [List.getD_eq_getElem?_getD, List.getElem?_append, hql]
        split
        · next h => rw [List.getD_eq_getElem?_getD]
        · next h =>
          by_cases e : j = i
          · subst e; simp
          · rw [List.getElem?_eq_none (by simp; omega), if_neg e]; rfl
      have HVA : Hid (∀ v' j, qv (qs ++ [(pat ps i, v')]) j = if j < i then qv qs j else if j = i then v' else .slice none 0 0) := fun v' j => by
        unfold qv
        rw [List.getD_eq_getElem?_getD, List.getElem?_append, hql]
        split
        · next h => rw [List.getD_eq_getElem?_getD]
        · next h =>
          by_cases e : j = i
          · subst e; simp
          · rw [List.getElem?_eq_none (by simp; omega), if_neg e]; rfl
      have hg : ∀ j, j < 5 → ∃ x, (cellsQ qs ++ M.toList.drop (i * 5))[i * 5 + j]? = some x := fun j hj => by
        obtain ⟨x, hx⟩ := HMV.out (i * 5 + j) (by omega)
        exact ⟨x, (rowQ_get qs M.toList i j hql).trans (by simpa using hx)⟩
      obtain ⟨z0, hz0'⟩ := hg 0 (by omega)
      obtain ⟨z1, hz1'⟩ := hg 1 (by omega)
      obtain ⟨z2, hz2'⟩ := hg 2 (by omega)
      obtain ⟨z3, hz3'⟩ := hg 3 (by omega)
      obtain ⟨z4, hz4'⟩ := hg 4 (by omega)
      rw [Nat.add_zero] at hz0'
      obtain ⟨x0, x1, x2, x3, x4, x5, x6⟩ := g5
      obtain ⟨a4, c4, hvn, _⟩ := x6.form
      have HX6 := hid x6
      have HNL := hid hfi.nots
      have HR := hid hr
      have HB := hid hb
      have HNR := hid hnr
      have HAP := hid hap
      have HQL := hid hql
      generalize hP : pat ps i = p at *
      obtain ⟨pl, pw, pt, pa, pn⟩ := p
      dsimp only at x1 x2 x3 x4 hvn HTP HSET HX6 HNL
      subst hvn
      generalize hcs : cellsQ qs ++ M.toList.drop (i * 5) = cs at *
      have HZ := hid (show cs[i * 5]? = some z0 ∧ cs[i * 5 + 1]? = some z1 ∧ cs[i * 5 + 2]? = some z2 ∧ cs[i * 5 + 3]? = some z3 ∧ cs[i * 5 + 4]? = some z4 from ⟨hz0', hz1', hz2', hz3', hz4'⟩)
      clear h5 x6 hr hb hnr hap hfi hg hz0' hz1' hz2' hz3' hz4' hP hcs hqs hql
      go_wp2_with fail
      refine (HTP.out _ HX6.out).mono ?_
      rintro e w1 ⟨v1, rfl, ho1, hb1⟩
      obtain ⟨a1, c1, rfl, _⟩ := row_form ho1
      have R0 := HR.out.below hb1
      have B1 := HB.out.trans (hb1.mono HB.out.size)
      have hs1 := hb1.size
      obtain ⟨y0, y1, y2, y3, y4⟩ := HZ.out
      have e0 : w1.cell? ⟨w.heap.size, i * 5, none⟩ = some z0 := (R0.cell (i * 5)).trans (by simpa using y0)
      have f0 := R0.fz (i * 5)
      have R1 := R0.set (i * 5) (.int .i64 pl)
      have e1 : (w1.setCell ⟨w.heap.size, i * 5, none⟩ (.int .i64 pl)).cell? ⟨w.heap.size, i * 5 + 1, none⟩ = some z1 := (R1.cell (i * 5 + 1)).trans (by rw [List.setIfInBounds_toArray, List.getElem?_toArray, List.getElem?_set_ne (by omega)]; exact y1)
      have f1 := R1.fz (i * 5 + 1)
      have R2 := R1.set (i * 5 + 1) (.int .i64 pw)
      have e2 : ((w1.setCell ⟨w.heap.size, i * 5, none⟩ (.int .i64 pl)).setCell ⟨w.heap.size, i * 5 + 1, none⟩ (.int .i64 pw)).cell? ⟨w.heap.size, i * 5 + 2, none⟩ = some z2 := (R2.cell (i * 5 + 2)).trans (by rw [List.setIfInBounds_toArray, List.setIfInBounds_toArray, List.getElem?_toArray, List.getElem?_set_ne (by omega), List.getElem?_set_ne (by omega)]; exact y2)
      have f2 := R2.fz (i * 5 + 2)
      have R3 := R2.set (i * 5 + 2) (.int .i64 pt)
      have e3 : (((w1.setCell ⟨w.heap.size, i * 5, none⟩ (.int .i64 pl)).setCell ⟨w.heap.size, i * 5 + 1, none⟩ (.int .i64 pw)).setCell ⟨w.heap.size, i * 5 + 2, none⟩ (.int .i64 pt)).cell? ⟨w.heap.size, i * 5 + 3, none⟩ = some z3 := (R3.cell (i * 5 + 3)).trans (by rw [List.setIfInBounds_toArray, List.setIfInBounds_toArray, List.setIfInBounds_toArray, List.getElem?_toArray, List.getElem?_set_ne (by omega), List.getElem?_set_ne (by omega), List.getElem?_set_ne (by omega)]; exact y3)
      have f3 := R3.fz (i * 5 + 3)
      have R4 := R3.set (i * 5 + 3) (.string pa)
      have e4 : ((((w1.setCell ⟨w.heap.size, i * 5, none⟩ (.int .i64 pl)).setCell ⟨w.heap.size, i * 5 + 1, none⟩ (.int .i64 pw)).setCell ⟨w.heap.size, i * 5 + 2, none⟩ (.int .i64 pt)).setCell ⟨w.heap.size, i * 5 + 3, none⟩ (.string pa)).cell? ⟨w.heap.size, i * 5 + 4, none⟩ = some z4 := (R4.cell (i * 5 + 4)).trans (by rw [List.setIfInBounds_toArray, List.setIfInBounds_toArray, List.setIfInBounds_toArray, List.setIfInBounds_toArray, List.getElem?_toArray, List.getElem?_set_ne (by omega), List.getElem?_set_ne (by omega), List.getElem?_set_ne (by omega), List.getElem?_set_ne (by omega)]; exact y4)
      have f4 := R4.fz (i * 5 + 4)
      have R5 := R4.set (i * 5 + 4) (.slice a1 pn.length c1)
      rw [List.setIfInBounds_toArray, List.setIfInBounds_toArray, List.setIfInBounds_toArray, List.setIfInBounds_toArray, List.setIfInBounds_toArray] at R5
      have hset := HSET.out (.slice a1 pn.length c1)
      rw [hset] at R5
      have HR5 := hid R5
      have G5 := grown_same (grown_same (grown_same (grown_same (grownBy_setCellAt w1 w.heap.size (i * 5) (.int .i64 pl)) (grownBy_setCellAt _ w.heap.size (i * 5 + 1) (.int .i64 pw))) (grownBy_setCellAt _ w.heap.size (i * 5 + 2) (.int .i64 pt))) (grownBy_setCellAt _ w.heap.size (i * 5 + 3) (.string pa))) (grownBy_setCellAt _ w.heap.size (i * 5 + 4) (.slice a1 pn.length c1))
      have HG5 := hid G5
      have HO1 := hid ho1
      have HB1 := hid B1
      have HBB1 := hid hb1
      clear R0 R1 R2 R3 R4 R5 G5 ho1 B1 hb1 y0 y1 y2 y3 y4 hset
      go_wp2
      have hsg := HG5.out.size
      refine ⟨⟨i + 1, qs ++ [(⟨pl, pw, pt, pa, pn⟩, .slice a1 pn.length c1)], by omega, by go_num, HQS.out _, HR5.out, fun j hj => ?_, fun x y hx hy hxy g => ?_, HB1.out.grown HG5.out (by omega) (fun g e => by cases e; exact Nat.le_refl _), by omega⟩, by simp [intOf]; omega⟩
      · have hj' : j < i + 1 := by rw [List.length_append, HQL.out] at hj; simpa using hj
        rw [HPA.out, HVA.out]
        by_cases hji : j < i
        · rw [if_pos hji, if_pos hji]
          have h0 := HNR.out j (by rw [HQL.out]; exact hji)
          exact row_kept (Below.row HBB1.out h0) HG5.out (by omega)
        · obtain rfl : j = i := by omega
          rw [if_neg hji, if_neg hji, if_pos rfl, if_pos rfl]
          exact row_kept (ownsRow_base HO1.out (by omega)) HG5.out (by omega)
      · have hx' : x < i + 1 := by rw [List.length_append, HQL.out] at hx; simpa using hx
        have hy' : y < i + 1 := by rw [List.length_append, HQL.out] at hy; simpa using hy
        rw [HVA.out, HVA.out]
        intro h1 h2
        by_cases hxi : x < i
        · rw [if_pos hxi] at h1
          by_cases hyi : y < i
          · rw [if_pos hyi] at h2
            exact HAP.out x y (by rw [HQL.out]; exact hxi) (by rw [HQL.out]; exact hyi) hxy g h1 h2
          · rw [if_neg hyi, if_pos (by omega)] at h2
            have k1 := (HNR.out x (by rw [HQL.out]; exact hxi)).lt g h1
            have k2 := HO1.out.lt g h2
            omega
        · rw [if_neg hxi, if_pos (by omega)] at h1
          have hyi : y < i := by omega
          rw [if_pos hyi] at h2
          have k1 := (HNR.out y (by rw [HQL.out]; exact hyi)).lt g h2
          have k2 := HO1.out.lt g h1
          omega
    · obtain rfl : i = ps.length := by omega
      have e : cellsQ qs ++ M.toList.drop (ps.length * 5) = cellsQ qs := by rw [List.drop_of_length_le (by simp; omega)]; simp
      rw [e] at hr
      rw [List.take_length] at hqs
      have HR := hid hr
      have HQS := hid hqs
      have HNR := hid hnr
      have HAP := hid hap
      have HB := hid hb
      clear hr hqs hnr hap hb
      go_wp2
      go_ret
      have hcl := cellsQ_len qs
      refine ⟨_, qs, rfl, HQS.out, ⟨?_, fun i hi => ownsRow_base (HNR.out i hi) (by omega), fun j hj g hg he => ?_, HAP.out⟩, HB.out⟩
      · rw [← hql]
        exact ⟨hcl, .inr ⟨w.heap.size, qs.length, (cellsQ qs).toArray, rfl, Nat.le_refl _, HR.out, Nat.le_refl _, by unfold maxLen; omega, by simp [hcl], by show List.take (qs.length * 5) (cellsQ qs).toArray.toList = _; rw [← hcl, List.toList_toArray, List.take_length]⟩⟩
      · have k1 := ((HNR.out j hj).lt g hg).1
        have k2 : w.heap.size = g := Option.some.inj he
        omega
end Go.Proofs.YtlnkhbnbcmllaaaGreat
