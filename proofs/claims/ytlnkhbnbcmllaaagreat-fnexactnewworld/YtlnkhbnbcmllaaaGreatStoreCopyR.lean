/- spec.l4Copy of a store in rows that have grown. -/
import Derived.Test.YtlnkhbnbcmllaaaGreatStoreCopy
namespace Go.Proofs.YtlnkhbnbcmllaaaGreat
open Go.RowKit
theorem rowI_below {w w' : World} {B : Nat} {v : Value} {its : Itms} (h : w.ownsRow B 84 2 v its.length (cellsI its)) (hb : Below w.heap.size w w') : w'.ownsRow B 84 2 v its.length (cellsI its) := h.kept (grown_of_below hb) (by cases hv : v.ownBlock <;> simp)
/-- append of items onto an own row of none. -/
theorem append_itemsR {ops : Array Oper} {rest : List Oper} {o : Oper} {a : Act} {w : World} {Q : Exit → Act → World → Prop} (hgd : o.guard = none) (s x : Operand)
    (ho : o.op = .call { callee := .builtin .append, args := #[s, x], argTypes := #[32, 32] }) (B : Nat) (v : Value) (hs : a.eval s = v) (hown : w.ownsRow B 84 2 v 0 [])
    (b2 : Nat) (v2 : Value) (its : Itms) (hx : a.eval x = v2) (hrow : w.ownsRow b2 84 2 v2 its.length (cellsI its)) (hlen : its.length ≤ 1048576) (hB : B ≤ w.heap.size)
    (h : ∀ v' w', w'.ownsRow B 84 2 v' its.length (cellsI its) → Below B w w' → wpList Tryz.prog ops Q rest (a.put o.dst v') w') : wpList Tryz.prog ops Q (o :: rest) a w := by
  obtain ⟨i0, hi, hz0, hz1, hz2⟩ := info_parts Tryz.infoItem
  have hrow0 := hrow
  rcases hrow with ⟨hl, ⟨rfl, h0⟩ | ⟨g, cap, cur, rfl, hb, hg, hn, hm, hsz, hxs⟩⟩
  · have : its = [] := List.eq_nil_of_length_eq_zero h0
    subst this
    exact wpList_append_own_none hgd s x 32 ho B 84 i0 2 Tryz.underlying32 hi v 0 [] hs hown hx (h v w hown (Below.refl _ _))
  · refine wpList_append_own w hgd s x 32 ho B 84 i0 (.agg #[.string ⟨#[]⟩, .int .i64 0]) 2 24 Tryz.underlying32 hi hz0 hz1 hz2 rfl (by decide) v 0 [] hs hown ⟨g, 0, none⟩ its.length cap (cellsI its) hx (cellsI_len its) (fun j u hj => ?_) (cellsI_one its) (by unfold maxLen; omega) (by omega) hB ?_
    · have hjl := (List.getElem?_eq_some_iff.1 hj).1
      have hc := hrow0.cellAt j (by rw [cellsI_len] at hjl; omega)
      have e : (⟨g, 0, none⟩ : Addr).add j = ⟨g, j, none⟩ := by simp [Addr.add]; intro h; exact h.symm
      rw [e, hc, hj]
    · intro v' w' ho' hg' _
      refine h v' w' ?_ ((Below.refl B w).grown hg' hB (fun g e => (hown.lt g e).1))
      rw [Nat.zero_add, List.nil_append] at ho'
      exact ho'
set_option maxRecDepth 100000 in
set_option maxHeartbeats 1000000 in
theorem l4Copy_row (wd room : Int) (vi vp : Value) (its : Itms) (ts : List ByteArray) (w : World) (b1 b2 : Nat) (hi : w.ownsRow b1 84 2 vi its.length (cellsI its)) (hp : w.ownsRow b2 9 1 vp ts.length (ts.map Value.string)) (hl : its.length ≤ 1048576) (hlp : ts.length ≤ 1048576) :
    Calls Tryz.prog 22 #[.agg #[.int .i64 wd, .int .i64 room, vi, vp]] w fun e w' => ∃ vi' vp', e = .returned (.agg #[.int .i64 wd, .int .i64 room, vi', vp']) ∧ w'.ownsRow (w.heap.size + 1) 84 2 vi' its.length (cellsI its) ∧ w'.ownsRow (w.heap.size + 1) 9 1 vp' ts.length (ts.map Value.string) ∧ (∀ g, vi'.ownBlock = some g → vp'.ownBlock ≠ some g) ∧ Below w.heap.size w w' := by
  obtain ⟨ag, cg, rfl⟩ := row_any hi
  obtain ⟨ap, cp, rfl, _⟩ := row_form hp
  have hA0 := ((Below.refl w.heap.size w).alloc (Nat.le_refl _) (.cells #[.int .i64 wd, .int .i64 room, .slice ag its.length cg, .slice ap ts.length cp] 34)).alloc (by simp) (.cells #[.int .i64 0, .int .i64 0, .slice none 0 0, .slice none 0 0] 34)
  have hA := hA0.alloc (by simp; omega) (.cells #[] 84)
  have hN1 := ((Blk.new w 34 #[.int .i64 wd, .int .i64 room, .slice ag its.length cg, .slice ap ts.length cp]).alloc (.cells #[.int .i64 0, .int .i64 0, .slice none 0 0, .slice none 0 0] 34)).alloc (.cells #[] 84)
  have hN2 := (Blk.new (w.alloc (.cells #[.int .i64 wd, .int .i64 room, .slice ag its.length cg, .slice ap ts.length cp] 34)) 34 #[.int .i64 0, .int .i64 0, .slice none 0 0, .slice none 0 0]).alloc (.cells #[] 84)
  rw [World.size_alloc] at hN2
  have hO : (((w.alloc (.cells #[.int .i64 wd, .int .i64 room, .slice ag its.length cg, .slice ap ts.length cp] 34)).alloc (.cells #[.int .i64 0, .int .i64 0, .slice none 0 0, .slice none 0 0] 34)).alloc (.cells #[] 84)).ownsRow (w.heap.size + 2) 84 2 (.slice (some ⟨w.heap.size + 1 + 1, 0, none⟩) 0 0) 0 [] := by
    have := World.ownsRow_made (base := w.heap.size + 2) (e := 84) (size := 2) ((w.alloc (.cells #[.int .i64 wd, .int .i64 room, .slice ag its.length cg, .slice ap ts.length cp] 34)).alloc (.cells #[.int .i64 0, .int .i64 0, .slice none 0 0, .slice none 0 0] 34)) #[] 0 (by simp) (by simp [maxLen]) rfl
    rw [World.size_alloc, World.size_alloc] at this
    exact this
  have hI := rowI_below hi hA
  have HP := hid (Below.row hA hp)
  have HN1 := hid hN1
  have HN2 := hid hN2
  have HA := hid hA
  have HP0 := hid hp
  clear hi hp hA hA0 hN1 hN2
  go_enter Tryz.func22, Tryz.ntmps22
  go_upto_region 2 with (at_builtin; refine append_itemsR rfl _ _ rfl (w.heap.size + 2) _ rfl hO b1 _ its (by go_simp) hI hl (by simp) ?_; intro v1 w1 ho1 hb1; obtain ⟨a1, c1, rfl⟩ := row_any ho1; have M1 := HN1.out.belowAt hb1 (by omega); have c2 := M1.cell 2; have f2 := M1.fz 2)
  have M1s := M1.set 2 (.slice a1 its.length c1)
  have hU := grownBy_setCellAt w1 w.heap.size 2 (.slice a1 its.length c1)
  have hBW := HA.out.trans (hb1.mono (by omega))
  have hBU := hBW.setCell (p := ⟨w.heap.size, 2, none⟩) (Nat.le_refl _) (.slice a1 its.length c1)
  have N2 := (HN2.out.belowAt hb1 (by omega)).kept hU (fun e => by simp at e)
  have c3 : ∀ o, ((w1.setCell ⟨w.heap.size, 2, none⟩ (.slice a1 its.length c1)).alloc o).cell? ⟨w.heap.size, 3, none⟩ = some (.slice ap ts.length cp) := fun o => (M1s.alloc o).cell 3
  have hO2 : ((w1.setCell ⟨w.heap.size, 2, none⟩ (.slice a1 its.length c1)).alloc (.cells #[] 9)).ownsRow w1.heap.size 9 1 (.slice (some ⟨w1.heap.size, 0, none⟩) 0 0) 0 [] := by simpa using World.ownsRow_made (base := (w1.setCell ⟨w.heap.size, 2, none⟩ (.slice a1 its.length c1)).heap.size) (e := 9) (size := 1) (w1.setCell ⟨w.heap.size, 2, none⟩ (.slice a1 its.length c1)) #[] 0 (Nat.le_refl _) (by simp [maxLen]) rfl
  have hP2 := Below.row (hBU.alloc hBU.size (.cells #[] 9)) HP0.out
  have hz2 : w.heap.size + 1 < w1.heap.size := by have := N2.lt; simpa using this
  have HO1 := hid (ho1.kept hU (.inr fun e => by have := (ho1.lt _ e).1; omega))
  have HL1 := hid fun g' (e : (Value.slice a1 its.length c1).ownBlock = some g') => ho1.lt g' e
  clear hI hO c2 f2 M1 hU ho1 hb1
  go_upto_region 3 with (at_builtin; refine append_texts rfl _ _ rfl w1.heap.size (.slice (some ⟨w1.heap.size, 0, none⟩) 0 0) rfl hO2 b2 _ ts (by go_simp) hP2 hlp (by simp) ?_; intro v2 w2 ho2 hb2; obtain ⟨a2, c2, rfl⟩ := row_any ho2; have M2 := (M1s.alloc (.cells #[] 9)).belowAt hb2 (by omega); have d3 := M2.cell 3; have g3 := M2.fz 3)
  have M2s := M2.set 3 (.slice a2 ts.length c2)
  have hV := grownBy_setCellAt w2 w.heap.size 3 (.slice a2 ts.length c2)
  have r0 : (w2.setCell ⟨w.heap.size, 3, none⟩ (.slice a2 ts.length c2)).cell? ⟨w.heap.size, 0, none⟩ = some (.int .i64 wd) := M2s.cell 0
  have r1 : (w2.setCell ⟨w.heap.size, 3, none⟩ (.slice a2 ts.length c2)).cell? ⟨w.heap.size, 1, none⟩ = some (.int .i64 room) := M2s.cell 1
  have r2 : (w2.setCell ⟨w.heap.size, 3, none⟩ (.slice a2 ts.length c2)).cell? ⟨w.heap.size, 2, none⟩ = some (.slice a1 its.length c1) := M2s.cell 2
  have r3 : (w2.setCell ⟨w.heap.size, 3, none⟩ (.slice a2 ts.length c2)).cell? ⟨w.heap.size, 3, none⟩ = some (.slice a2 ts.length c2) := M2s.cell 3
  have N3 := ((N2.alloc (.cells #[] 9)).belowAt hb2 (by omega)).kept hV (fun e => by simp at e)
  have s := N3.store4 (.int .i64 wd) (.int .i64 room) (.slice a1 its.length c1) (.slice a2 ts.length c2)
  have s0 := s.a0; have s1 := s.a1; have s2 := s.a2; have s3 := s.a3
  have k0 := s.f0; have k1 := s.f1; have k2 := s.f2; have k3 := s.f3
  have Z := hid s.z
  have hlw : ∀ g', (Value.slice a1 its.length c1).ownBlock = some g' → g' < w1.heap.size := fun g' e => (HL1.out g' e).2
  have h1S : (Value.slice a1 its.length c1).ownBlock ≠ some w.heap.size := fun e => by have := (HL1.out _ e).1; omega
  have h1T : (Value.slice a1 its.length c1).ownBlock ≠ some (w.heap.size + 1) := fun e => by have := (HL1.out _ e).1; omega
  have O1 : w2.ownsRow (w.heap.size + 2) 84 2 (.slice a1 its.length c1) its.length (cellsI its) := by
    have h := HO1.out.alloc (.cells #[] 9)
    rcases h with ⟨q, r | ⟨g', cap, cur, e1, q1, q2, q3⟩⟩
    · exact ⟨q, .inl r⟩
    · refine ⟨q, .inr ⟨g', cap, cur, e1, q1, (hb2.block g' (hlw g' (by rw [e1]; rfl))).trans q2, q3⟩⟩
  have l2 : ∀ g', (Value.slice a2 ts.length c2).ownBlock = some g' → w1.heap.size ≤ g' := fun g' e => (ho2.lt g' e).1
  have h2S : (Value.slice a2 ts.length c2).ownBlock ≠ some w.heap.size := fun e => by have := l2 _ e; omega
  have h2T : (Value.slice a2 ts.length c2).ownBlock ≠ some (w.heap.size + 1) := fun e => by have := l2 _ e; omega
  have GG := fun (x : World) (i : Nat) (y : Value) => grownBy_setCellAt x (w.heap.size + 1) i y
  have OI := hid (((((O1.kept hV (.inr h1S)).kept (GG _ 0 (.int .i64 wd)) (.inr h1T)).kept (GG _ 1 (.int .i64 room)) (.inr h1T)).kept (GG _ 2 (.slice a1 its.length c1)) (.inr h1T)).kept (GG _ 3 (.slice a2 ts.length c2)) (.inr h1T))
  have OP := hid (((((ho2.kept hV (.inr h2S)).kept (GG _ 0 (.int .i64 wd)) (.inr h2T)).kept (GG _ 1 (.int .i64 room)) (.inr h2T)).kept (GG _ 2 (.slice a1 its.length c1)) (.inr h2T)).kept (GG _ 3 (.slice a2 ts.length c2)) (.inr h2T))
  have HAP : Hid (∀ g', (Value.slice a1 its.length c1).ownBlock = some g' → (Value.slice a2 ts.length c2).ownBlock ≠ some g') := fun g' e e2 => by have h1 := hlw g' e; have h2 := l2 g' e2; omega
  have BB := hid ((((((hBU.alloc hBU.size (.cells #[] 9)).trans (hb2.mono (by omega))).setCell (p := ⟨w.heap.size, 3, none⟩) (Nat.le_refl _) (.slice a2 ts.length c2)).setCell (p := ⟨w.heap.size + 1, 0, none⟩) (by simp) (.int .i64 wd)).setCell (p := ⟨w.heap.size + 1, 1, none⟩) (by simp) (.int .i64 room)).setCell (p := ⟨w.heap.size + 1, 2, none⟩) (by simp) (.slice a1 its.length c1) |>.setCell (p := ⟨w.heap.size + 1, 3, none⟩) (by simp) (.slice a2 ts.length c2))
  clear s N2 N3 M1s M2 M2s c3 hO2 hP2 hb2 ho2 O1 GG hV hBW hBU d3 g3
  go_wp2
  refine bodyPost_ret (v := .agg #[.int .i64 wd, .int .i64 room, .slice a1 its.length c1, .slice a2 ts.length c2]) (by simp [results, Tryz.results22, go_sem, Z.out.cell]) rfl ⟨_, _, rfl, ownsRow_base2 OI.out (by omega), ownsRow_base2 OP.out (by omega), HAP.out, BB.out⟩
end Go.Proofs.YtlnkhbnbcmllaaaGreat
