import Derived.Test.YtkjdabnglcabiaaGreatDoorPutMath
import Derived.Test.YtkjdabnglcabiaaGreatDoorShort
import Derived.Test.YtkjdabnglcabiaaGreatDoorUnpinMath
/- spec.l4Copy of a store in rows that have grown. -/
namespace Go.Proofs.YtkjdabnglcabiaaGreatDoor
open Go.RowKit
theorem rowI_below {w w' : World} {B : Nat} {v : Value} {its : Itms} (h : w.ownsRow B 59 2 v its.length (cellsI its)) (hb : Below w.heap.size w w') : w'.ownsRow B 59 2 v its.length (cellsI its) := h.kept (grown_of_below hb) (by cases hv : v.ownBlock <;> simp)
/-- append of items onto an own row of none. -/
theorem append_itemsR {ops : Array Oper} {rest : List Oper} {o : Oper} {a : Act} {w : World} {Q : Exit → Act → World → Prop} (hgd : o.guard = none) (s x : Operand)
  (ho : o.op = .call { callee := .builtin .append, args := #[s, x], argTypes := #[23, 23] }) (B : Nat) (v : Value) (hs : a.eval s = v) (hown : w.ownsRow B 59 2 v 0 [])
  (b2 : Nat) (v2 : Value) (its : Itms) (hx : a.eval x = v2) (hrow : w.ownsRow b2 59 2 v2 its.length (cellsI its)) (hlen : its.length ≤ 1048576) (hB : B ≤ w.heap.size)
  (h : ∀ v' w', w'.ownsRow B 59 2 v' its.length (cellsI its) → Below B w w' → wpList Tryz.prog ops Q rest (a.put o.dst v') w') : wpList Tryz.prog ops Q (o :: rest) a w := by
 obtain ⟨i0, hi, hz0, hz1, hz2⟩ := info_parts Tryz.infoItem
 have hrow0 := hrow
 rcases hrow with ⟨hl, ⟨rfl, h0⟩ | ⟨g, cap, cur, rfl, hb, hg, hn, hm, hsz, hxs⟩⟩
 ·have : its = [] := List.eq_nil_of_length_eq_zero h0
  subst this
  exact wpList_append_own_none hgd s x 23 ho B 59 i0 2 Tryz.underlying23 hi v 0 [] hs hown hx (h v w hown (Below.refl _ _))
 ·refine wpList_append_own w hgd s x 23 ho B 59 i0 (.agg #[.string ⟨#[]⟩, .int .i64 0]) 2 24 Tryz.underlying23 hi hz0 hz1 hz2 rfl (by decide) v 0 [] hs hown ⟨g, 0, none⟩ its.length cap (cellsI its) hx (cellsI_len its) (fun j u hj => ?_) (cellsI_one its) (by unfold maxLen; omega) (by omega) hB ?_
  ·have hjl := (List.getElem?_eq_some_iff.1 hj).1
   have hc := hrow0.cellAt j (by rw [cellsI_len] at hjl; omega)
   have e : (⟨g, 0, none⟩ : Addr).add j = ⟨g, j, none⟩ := by simp [Addr.add]; intro h; exact h.symm
   rw [e, hc, hj]
  ·intro v' w' ho' hg' _
   refine h v' w' ?_ ((Below.refl B w).grown hg' hB (fun g e => (hown.lt g e).1))
   rw [Nat.zero_add, List.nil_append] at ho'
   exact ho'
set_option maxRecDepth 100000 in
set_option maxHeartbeats 1000000 in
theorem l4Copy_row (wd room : Int) (vi vp : Value) (its : Itms) (ts : List ByteArray) (w : World) (b1 b2 : Nat) (hi : w.ownsRow b1 59 2 vi its.length (cellsI its)) (hp : w.ownsRow b2 9 1 vp ts.length (ts.map Value.string)) (hl : its.length ≤ 1048576) (hlp : ts.length ≤ 1048576) :
  Calls Tryz.prog 50 #[.agg #[.int .i64 wd, .int .i64 room, vi, vp]] w fun e w' => ∃ vi' vp', e = .returned (.agg #[.int .i64 wd, .int .i64 room, vi', vp']) ∧ w'.ownsRow (w.heap.size + 1) 59 2 vi' its.length (cellsI its) ∧ w'.ownsRow (w.heap.size + 1) 9 1 vp' ts.length (ts.map Value.string) ∧ (∀ g, vi'.ownBlock = some g → vp'.ownBlock ≠ some g) ∧ Below w.heap.size w w' := by
 obtain ⟨ag, cg, rfl⟩ := row_any hi
 obtain ⟨ap, cp, rfl, _⟩ := row_form hp
 have hA0 := ((Below.refl w.heap.size w).alloc (Nat.le_refl _) (.cells #[.int .i64 wd, .int .i64 room, .slice ag its.length cg, .slice ap ts.length cp] 26)).alloc (by simp) (.cells #[.int .i64 0, .int .i64 0, .slice none 0 0, .slice none 0 0] 26)
 have hA := hA0.alloc (by simp; omega) (.cells #[] 59)
 have hN1 := ((Blk.new w 26 #[.int .i64 wd, .int .i64 room, .slice ag its.length cg, .slice ap ts.length cp]).alloc (.cells #[.int .i64 0, .int .i64 0, .slice none 0 0, .slice none 0 0] 26)).alloc (.cells #[] 59)
 have hN2 := (Blk.new (w.alloc (.cells #[.int .i64 wd, .int .i64 room, .slice ag its.length cg, .slice ap ts.length cp] 26)) 26 #[.int .i64 0, .int .i64 0, .slice none 0 0, .slice none 0 0]).alloc (.cells #[] 59)
 rw [World.size_alloc] at hN2
 have hO : (((w.alloc (.cells #[.int .i64 wd, .int .i64 room, .slice ag its.length cg, .slice ap ts.length cp] 26)).alloc (.cells #[.int .i64 0, .int .i64 0, .slice none 0 0, .slice none 0 0] 26)).alloc (.cells #[] 59)).ownsRow (w.heap.size + 2) 59 2 (.slice (some ⟨w.heap.size + 1 + 1, 0, none⟩) 0 0) 0 [] := by
  have := World.ownsRow_made (base := w.heap.size + 2) (e := 59) (size := 2) ((w.alloc (.cells #[.int .i64 wd, .int .i64 room, .slice ag its.length cg, .slice ap ts.length cp] 26)).alloc (.cells #[.int .i64 0, .int .i64 0, .slice none 0 0, .slice none 0 0] 26)) #[] 0 (by simp) (by simp [maxLen]) rfl
  rw [World.size_alloc, World.size_alloc] at this
  exact this
 have hI := rowI_below hi hA
 have HP := hid (Below.row hA hp)
 have HN1 := hid hN1
 have HN2 := hid hN2
 have HA := hid hA
 have HP0 := hid hp
 clear hi hp hA hA0 hN1 hN2
 go_enter Tryz.func50, Tryz.ntmps50
 go_upto_region 2 with (at_builtin; refine append_itemsR rfl _ _ rfl (w.heap.size + 2) _ rfl hO b1 _ its (by go_simp) hI hl (by simp) ?_; intro v1 w1 ho1 hb1; obtain ⟨a1, c1, rfl⟩ := row_any ho1; have M1 := HN1.out.belowAt hb1 (by omega); have c2 := M1.cell 2; have f2 := M1.fz 2)
 have M1s := M1.set 2 (.slice a1 its.length c1)
 have hU := grownBy_setCellAt w1 w.heap.size 2 (.slice a1 its.length c1)
 have hBW := HA.out.trans (hb1.mono (by omega))
 have hBU := hBW.setCell (p := ⟨w.heap.size, 2, none⟩) (Nat.le_refl _) (.slice a1 its.length c1)
 have N2 := (HN2.out.belowAt hb1 (by omega)).kept hU (fun e => by simp at e)
 have c3 : ∀ o, ((w1.setCell ⟨w.heap.size, 2, none⟩ (.slice a1 its.length c1)).alloc o).cell? ⟨w.heap.size, 3, none⟩ = some (.slice ap ts.length cp) := fun o => (M1s.alloc o).cell 3
 have hO2 : ((w1.setCell ⟨w.heap.size, 2, none⟩ (.slice a1 its.length c1)).alloc (.cells #[] 9)).ownsRow w1.heap.size 9 1 (.slice (some ⟨w1.heap.size, 0, none⟩) 0 0) 0 [] := by simpa using World.ownsRow_made (base := (w1.setCell ⟨w.heap.size, 2, none⟩ (.slice a1 its.length c1)).heap.size) (e := 9) (size := 1) (w1.setCell ⟨w.heap.size, 2, none⟩ (.slice a1 its.length c1)) #[] 0 (Nat.le_refl _) (by simp [maxLen]) rfl
 have hP2 := Below.row (hBU.alloc hBU.size (.cells #[] 9)) HP0.out
 have hz2 : w.heap.size + 1 < w1.heap.size := by have := N2.lt; simpa using this
 have HO1 := hid (ho1.kept hU (.inr fun e => by have := (ho1.lt _ e).1; omega))
 have HL1 := hid fun g' (e : (Value.slice a1 its.length c1).ownBlock = some g') => ho1.lt g' e
 clear hI hO c2 f2 M1 hU ho1 hb1
 go_upto_region 3 with (at_builtin; refine append_texts rfl _ _ rfl w1.heap.size (.slice (some ⟨w1.heap.size, 0, none⟩) 0 0) rfl hO2 b2 _ ts (by go_simp) hP2 hlp (by simp) ?_; intro v2 w2 ho2 hb2; obtain ⟨a2, c2, rfl⟩ := row_any ho2; have M2 := (M1s.alloc (.cells #[] 9)).belowAt hb2 (by omega); have d3 := M2.cell 3; have g3 := M2.fz 3)
 have M2s := M2.set 3 (.slice a2 ts.length c2)
 have hV := grownBy_setCellAt w2 w.heap.size 3 (.slice a2 ts.length c2)
 have r0 : (w2.setCell ⟨w.heap.size, 3, none⟩ (.slice a2 ts.length c2)).cell? ⟨w.heap.size, 0, none⟩ = some (.int .i64 wd) := M2s.cell 0
 have r1 : (w2.setCell ⟨w.heap.size, 3, none⟩ (.slice a2 ts.length c2)).cell? ⟨w.heap.size, 1, none⟩ = some (.int .i64 room) := M2s.cell 1
 have r2 : (w2.setCell ⟨w.heap.size, 3, none⟩ (.slice a2 ts.length c2)).cell? ⟨w.heap.size, 2, none⟩ = some (.slice a1 its.length c1) := M2s.cell 2
 have r3 : (w2.setCell ⟨w.heap.size, 3, none⟩ (.slice a2 ts.length c2)).cell? ⟨w.heap.size, 3, none⟩ = some (.slice a2 ts.length c2) := M2s.cell 3
 have N3 := ((N2.alloc (.cells #[] 9)).belowAt hb2 (by omega)).kept hV (fun e => by simp at e)
 have s := N3.store4 (.int .i64 wd) (.int .i64 room) (.slice a1 its.length c1) (.slice a2 ts.length c2)
 have s0 := s.a0; have s1 := s.a1; have s2 := s.a2; have s3 := s.a3
 have k0 := s.f0; have k1 := s.f1; have k2 := s.f2; have k3 := s.f3
 have Z := hid s.z
 have hlw : ∀ g', (Value.slice a1 its.length c1).ownBlock = some g' → g' < w1.heap.size := fun g' e => (HL1.out g' e).2
 have h1S : (Value.slice a1 its.length c1).ownBlock ≠ some w.heap.size := fun e => by have := (HL1.out _ e).1; omega
 have h1T : (Value.slice a1 its.length c1).ownBlock ≠ some (w.heap.size + 1) := fun e => by have := (HL1.out _ e).1; omega
 have O1 : w2.ownsRow (w.heap.size + 2) 59 2 (.slice a1 its.length c1) its.length (cellsI its) := by
  have h := HO1.out.alloc (.cells #[] 9)
  rcases h with ⟨q, r | ⟨g', cap, cur, e1, q1, q2, q3⟩⟩
  ·exact ⟨q, .inl r⟩
  ·refine ⟨q, .inr ⟨g', cap, cur, e1, q1, (hb2.block g' (hlw g' (by rw [e1]; rfl))).trans q2, q3⟩⟩
 have l2 : ∀ g', (Value.slice a2 ts.length c2).ownBlock = some g' → w1.heap.size ≤ g' := fun g' e => (ho2.lt g' e).1
 have h2S : (Value.slice a2 ts.length c2).ownBlock ≠ some w.heap.size := fun e => by have := l2 _ e; omega
 have h2T : (Value.slice a2 ts.length c2).ownBlock ≠ some (w.heap.size + 1) := fun e => by have := l2 _ e; omega
 have GG := fun (x : World) (i : Nat) (y : Value) => grownBy_setCellAt x (w.heap.size + 1) i y
 have OI := hid (((((O1.kept hV (.inr h1S)).kept (GG _ 0 (.int .i64 wd)) (.inr h1T)).kept (GG _ 1 (.int .i64 room)) (.inr h1T)).kept (GG _ 2 (.slice a1 its.length c1)) (.inr h1T)).kept (GG _ 3 (.slice a2 ts.length c2)) (.inr h1T))
 have OP := hid (((((ho2.kept hV (.inr h2S)).kept (GG _ 0 (.int .i64 wd)) (.inr h2T)).kept (GG _ 1 (.int .i64 room)) (.inr h2T)).kept (GG _ 2 (.slice a1 its.length c1)) (.inr h2T)).kept (GG _ 3 (.slice a2 ts.length c2)) (.inr h2T))
 have HAP : Hid (∀ g', (Value.slice a1 its.length c1).ownBlock = some g' → (Value.slice a2 ts.length c2).ownBlock ≠ some g') := fun g' e e2 => by have h1 := hlw g' e; have h2 := l2 g' e2; omega
 have BB := hid ((((((hBU.alloc hBU.size (.cells #[] 9)).trans (hb2.mono (by omega))).setCell (p := ⟨w.heap.size, 3, none⟩) (Nat.le_refl _) (.slice a2 ts.length c2)).setCell (p := ⟨w.heap.size + 1, 0, none⟩) (by simp) (.int .i64 wd)).setCell (p := ⟨w.heap.size + 1, 1, none⟩) (by simp) (.int .i64 room)).setCell (p := ⟨w.heap.size + 1, 2, none⟩) (by simp) (.slice a1 its.length c1) |>.setCell (p := ⟨w.heap.size + 1, 3, none⟩) (by simp) (.slice a2 ts.length c2))
 clear s N2 N3 M1s M2 M2s c3 hO2 hP2 hb2 ho2 O1 GG hV hBW hBU d3 g3
 go_wp2
 refine bodyPost_ret (v := .agg #[.int .i64 wd, .int .i64 room, .slice a1 its.length c1, .slice a2 ts.length c2]) (by simp [results, Tryz.results50, go_sem, Z.out.cell]) rfl ⟨_, _, rfl, ownsRow_base2 OI.out (by omega), ownsRow_base2 OP.out (by omega), HAP.out, BB.out⟩
end Go.Proofs.YtkjdabnglcabiaaGreatDoor
/- Rows of items of their own, read. -/
namespace Go.Proofs.YtkjdabnglcabiaaGreatDoor
open Go.RowKit
theorem rdi_row {w : World} {B : Nat} {v : Value} {its : Itms} (h : w.ownsRow B 59 2 v its.length (cellsI its)) : RdI w v its := StoreOwn.rdi (w := w) (B := B) (vp := .slice none 0 0) (ts := []) ⟨h, World.ownsRow_nil _ _ _ _, fun _ _ e => by cases e⟩
theorem row_below {w w' : World} {B n size : Nat} {e : TypeId} {v : Value} {xs : List Value} (h : w.ownsRow B e size v n xs) (hb : Below w.heap.size w w') : w'.ownsRow B e size v n xs := Below.row hb h
end Go.Proofs.YtkjdabnglcabiaaGreatDoor
/- spec.Unpin: left out. -/
namespace Go.Proofs.YtkjdabnglcabiaaGreatDoor
open Go.RowKit
/-- What an append into a store's row of pins leaves. -/
theorem text_stored {W w6 : World} {n₀ tb k m : Nat} {v v' : Value} {xs ys : List Value} {tmp : Obj} {T : TypeId} {cs : Array Value} (hB : Blk W tb T cs) (hrow : W.ownsRow n₀ 9 1 v k xs) (htb : tb < n₀) (hown' : w6.ownsRow n₀ 9 1 v' m ys) (hgrow : (W.alloc tmp).grownBy w6 v.ownBlock) :
  Blk w6 tb T cs ∧ (w6.setCell ⟨tb, 3, none⟩ v').ownsRow n₀ 9 1 v' m ys := by
 have hlt : ∀ g, v.ownBlock = some g → n₀ ≤ g := fun g e => (hrow.lt g e).1
 have hlt' : ∀ g, v'.ownBlock = some g → n₀ ≤ g := fun g e => (hown'.lt g e).1
 exact ⟨(hB.alloc tmp).kept hgrow (fun e => by have := hlt tb e.symm; omega), hown'.kept (grownBy_setCellAt w6 tb 3 v') (.inr fun e => by have := hlt' tb e; omega)⟩
set_option maxRecDepth 100000 in
set_option maxHeartbeats 2000000 in
theorem specUnpin_row (wd room : Int) (vi vp : Value) (its : Itms) (ts : List ByteArray) (name : ByteArray) (w : World) (b1 b2 : Nat) (hi : w.ownsRow b1 59 2 vi its.length (cellsI its)) (hp : w.ownsRow b2 9 1 vp ts.length (ts.map Value.string)) (hli : its.length ≤ 1048576) (hlp : ts.length ≤ 1048576) (hsi : ∀ i, (itx its i).size ≤ 1048576) (hsp : ∀ i, (tv ts i).size ≤ 1048576) :
  Calls Tryz.prog 66 #[.agg #[.int .i64 wd, .int .i64 room, vi, vp], .string name] w fun e w' => ∃ wd' room' its' ts' code vi' vp', e = .returned (.tuple #[.agg #[.int .i64 wd', .int .i64 room', vi', vp'], .int .i64 code]) ∧ UnpinR wd room its ts name wd' room' its' ts' code ∧ StoreOwn w' (w.heap.size + 2) vi' vp' its' ts' ∧ Below w.heap.size w w' := by
 obtain ⟨ai, ci, hvi⟩ : ∃ ai ci, vi = .slice ai its.length ci := row_any hi
 subst hvi
 obtain ⟨ap, cp, rfl, _⟩ := row_form hp
 have hA := ((Below.refl w.heap.size w).alloc (Nat.le_refl _) (.cells #[.int .i64 wd, .int .i64 room, .slice ai its.length ci, .slice ap ts.length cp] 26)).alloc (by simp) (.cells #[.int .i64 0, .int .i64 0, .slice none 0 0, .slice none 0 0] 26)
 have HN := hid ((Blk.new w 26 #[.int .i64 wd, .int .i64 room, .slice ai its.length ci, .slice ap ts.length cp]).alloc (.cells #[.int .i64 0, .int .i64 0, .slice none 0 0, .slice none 0 0] 26))
 have hN7 := Blk.new (w.alloc (.cells #[.int .i64 wd, .int .i64 room, .slice ai its.length ci, .slice ap ts.length cp] 26)) 26 #[.int .i64 0, .int .i64 0, .slice none 0 0, .slice none 0 0]
 rw [World.size_alloc] at hN7
 have HN7 := hid hN7
 have HV := hid (specValidStore_any wd room _ _ its ts _ (rdi_row (Below.row hA hi)) (Reads.of_row (Below.row hA hp)) hli hlp hsi hsp)
 have HI := hid hi
 have HP := hid hp
 have HPR := hid (Reads.of_row hp).form
 have HA := hid hA
 have HCP := hid fun W a b => l4Copy_row wd room (.slice ai its.length ci) (.slice ap ts.length cp) its ts W b1 b2 a b hli hlp
 obtain ⟨i0, hi0, hz0, hz1, hz2⟩ := info_parts Tryz.info9
 clear hi hp hA hN7 hsi hsp
 go_enter Tryz.func66, Tryz.ntmps66
 go_wp2_with fail
 refine HV.out.mono ?_
 rintro e w1 ⟨b, rfl, hb, hb1⟩
 have N1 := HN.out.below hb1
 have N7 := HN7.out.below hb1
 have B1 := HA.out.trans (hb1.mono (by simp; omega))
 clear hb1
 cases b with
 | false =>
  have HF : Hid (UnpinR wd room its ts name 0 0 [] [] 1) := .inl ⟨(fun h => by have := hb.2 h.1; cases this), rfl, rfl, rfl, rfl, rfl⟩
  have s9 := N7.store4 (.int .i64 0) (.int .i64 0) (.slice none 0 0) (.slice none 0 0)
  have s0 := s9.a0; have s1 := s9.a1; have s2 := s9.a2; have s3 := s9.a3
  have k0 := s9.f0; have k1 := s9.f1; have k2 := s9.f2; have k3 := s9.f3
  have Z := hid s9.z
  have BB := hid ((((B1.setCell (p := ⟨w.heap.size + 1, 0, none⟩) (by simp) (.int .i64 0)).setCell (p := ⟨w.heap.size + 1, 1, none⟩) (by simp) (.int .i64 0)).setCell (p := ⟨w.heap.size + 1, 2, none⟩) (by simp) (.slice none 0 0)).setCell (p := ⟨w.heap.size + 1, 3, none⟩) (by simp) (.slice none 0 0))
  clear s9
  clear N1 N7 B1 hb
  go_wp2
  refine bodyPost_ret (v := .tuple #[.agg #[.int .i64 0, .int .i64 0, .slice none 0 0, .slice none 0 0], .int .i64 1]) (by simp [results, Tryz.results66, go_sem, Z.out.cell]) rfl ⟨0, 0, [], [], 1, _, _, rfl, HF.out, StoreOwn.none _ _, BB.out⟩
 | true =>
 have HVAL := hid (hb.1 rfl)
 clear hb
 have x0 : w1.cell? ⟨w.heap.size, 0, none⟩ = some (.int .i64 wd) := N1.cell 0
 have x1 : w1.cell? ⟨w.heap.size, 1, none⟩ = some (.int .i64 room) := N1.cell 1
 have x2 : w1.cell? ⟨w.heap.size, 2, none⟩ = some (.slice ai its.length ci) := N1.cell 2
 have x3 : w1.cell? ⟨w.heap.size, 3, none⟩ = some (.slice ap ts.length cp) := N1.cell 3
 by_cases hsz : (name.size : Int) = wd
 case neg =>
  have HF : Hid (UnpinR wd room its ts name 0 0 [] [] 1) := .inl ⟨fun h => hsz h.2, rfl, rfl, rfl, rfl, rfl⟩
  have s9 := N7.store4 (.int .i64 0) (.int .i64 0) (.slice none 0 0) (.slice none 0 0)
  have s0 := s9.a0; have s1 := s9.a1; have s2 := s9.a2; have s3 := s9.a3
  have k0 := s9.f0; have k1 := s9.f1; have k2 := s9.f2; have k3 := s9.f3
  have Z := hid s9.z
  have BB := hid ((((B1.setCell (p := ⟨w.heap.size + 1, 0, none⟩) (by simp) (.int .i64 0)).setCell (p := ⟨w.heap.size + 1, 1, none⟩) (by simp) (.int .i64 0)).setCell (p := ⟨w.heap.size + 1, 2, none⟩) (by simp) (.slice none 0 0)).setCell (p := ⟨w.heap.size + 1, 3, none⟩) (by simp) (.slice none 0 0))
  clear s9
  clear N1 N7 B1
  go_wp2
  refine bodyPost_ret (v := .tuple #[.agg #[.int .i64 0, .int .i64 0, .slice none 0 0, .slice none 0 0], .int .i64 1]) (by simp [results, Tryz.results66, go_sem, Z.out.cell]) rfl ⟨0, 0, [], [], 1, _, _, rfl, HF.out, StoreOwn.none _ _, BB.out⟩
 have HCP1 := hid (HCP.out w1 (row_below HI.out B1) (Below.row B1 HP.out))
 go_wp2_with fail
 refine HCP1.out.mono ?_
 rintro e w3 ⟨v3, p3, rfl, ho3, hp3, hap, hb3⟩
 obtain ⟨a4, c4, rfl⟩ := row_any ho3
 obtain ⟨b4, d4, rfl⟩ := row_any hp3
 have M1 := N1.below hb3
 have M7 := N7.below hb3
 have B3 := B1.trans (hb3.mono B1.size)
 have hlt7 := N7.lt
 have hs13 := hb3.size
 have W1 := (M1.alloc (.cells #[.int .i64 wd, .int .i64 room, .slice a4 its.length c4, .slice (some ⟨w3.heap.size + 1, 0, none⟩) 0 0] 26)).alloc (.cells #[] 9)
 have W7 := (M7.alloc (.cells #[.int .i64 wd, .int .i64 room, .slice a4 its.length c4, .slice (some ⟨w3.heap.size + 1, 0, none⟩) 0 0] 26)).alloc (.cells #[] 9)
 have WT := (Blk.new w3 26 #[.int .i64 wd, .int .i64 room, .slice a4 its.length c4, .slice (some ⟨w3.heap.size + 1, 0, none⟩) 0 0]).alloc (.cells #[] 9)
 have WO : ((w3.alloc (.cells #[.int .i64 wd, .int .i64 room, .slice a4 its.length c4, .slice (some ⟨w3.heap.size + 1, 0, none⟩) 0 0] 26)).alloc (.cells #[] 9)).ownsRow (w3.heap.size + 1) 9 1 (.slice (some ⟨w3.heap.size + 1, 0, none⟩) 0 0) 0 [] := by
  have := World.ownsRow_made (base := w3.heap.size + 1) (e := 9) (size := 1) (w3.alloc (.cells #[.int .i64 wd, .int .i64 room, .slice a4 its.length c4, .slice (some ⟨w3.heap.size + 1, 0, none⟩) 0 0] 26)) #[] 0 (by simp) (by simp [maxLen]) rfl
  rw [World.size_alloc] at this
  exact this
 have WI := ((ho3.alloc (.cells #[.int .i64 wd, .int .i64 room, .slice a4 its.length c4, .slice (some ⟨w3.heap.size + 1, 0, none⟩) 0 0] 26)).alloc (.cells #[] 9))
 have WB := (B3.alloc B3.size (.cells #[.int .i64 wd, .int .i64 room, .slice a4 its.length c4, .slice (some ⟨w3.heap.size + 1, 0, none⟩) 0 0] 26)).alloc (by have := B3.size; simp; omega) (.cells #[] 9)
 have HLI := hid ho3.lt
 have HW1 := hid W1
 have HW7 := hid W7
 have HWT := hid WT
 have HWO := hid WO
 have HWI := hid WI
 have HWB := hid WB
 have HPW := hid (Reads.of_row (Below.row WB HP.out))
 have hw3 := B3.size
 clear x0 x1 x2 x3 N1 N7 B1 M1 M7 B3 hb3 W1 W7 WT WO WI WB ho3 hp3 hap
 go_wp2
 go_loopw [7] (fun i wr => ∃ (k : Nat) (v : Value), k ≤ ts.length ∧ i = .int .i64 k ∧ Blk wr w3.heap.size 26 #[.int .i64 wd, .int .i64 room, .slice a4 its.length c4, v] ∧ wr.ownsRow (w3.heap.size + 1) 9 1 v (offL name (ts.take k)).length ((offL name (ts.take k)).map Value.string) ∧ (∀ g, v.ownBlock = some g → g < wr.heap.size) ∧ Below w3.heap.size ((w3.alloc (.cells #[.int .i64 wd, .int .i64 room, .slice a4 its.length c4, .slice (some ⟨w3.heap.size + 1, 0, none⟩) 0 0] 26)).alloc (.cells #[] 9)) wr) (fun i _ => ts.length - (intOf i).toNat)
 case atStart => exact ⟨0, _, Nat.zero_le _, rfl, HWT.out, HWO.out, fun g e => (HWO.out.lt g e).2, Below.refl _ _⟩
 case round =>
  obtain ⟨k, v, hk, rfl, hbx, hrow, hvl, hbl⟩ := hrel
  have X := HW1.out.belowAt hbl (by omega)
  have x3 : wr.cell? ⟨w.heap.size, 3, none⟩ = some (.slice ap ts.length cp) := X.cell 3
  have hsr := hbl.size
  simp only [World.size_alloc] at hsr
  by_cases hlt : k < ts.length
  ·obtain ⟨ap', cp', e', hc⟩ := HPR.out
   cases e'
   obtain ⟨b, o, rfl, hbw, hcell⟩ := hc k hlt
   have Bw := HWB.out.trans (hbl.mono hw3)
   have hd : wr.cell? ⟨b, o + k, none⟩ = some (.string (tv ts k)) := (Bw.cell (p := ⟨b, o + k, none⟩) hbw).trans hcell
   have hst := off_step name ts k hlt
   have hnl : (offL name (ts.take k)).length ≤ 1048576 := Nat.le_trans (offL_len _ _) (by rw [List.length_take]; omega)
   generalize tv ts k = t at *
   have HBX := hid hbx
   have HROW := hid hrow
   have HBL := hid hbl
   have HVL := hid hvl
   clear hc hcell hbx hrow hbl hvl X Bw
   cases hx : (t.toList == name.toList) with
   | true =>
    rw [hx, if_pos rfl] at hst
    have HST := hid hst
    clear hst
    go_wp2
    refine ⟨⟨k + 1, v, by omega, by go_num, HBX.out, by rw [HST.out]; exact HROW.out, HVL.out, HBL.out⟩, by simp [intOf]; omega⟩
   | false =>
    rw [hx, if_neg (by simp)] at hst
    have HST := hid hst
    clear hst
    generalize offL name (ts.take k) = ps at *
    obtain ⟨n, hn⟩ : ∃ n, n = ps.length := ⟨_, rfl⟩
    rw [← hn] at HROW hnl
    have HNN := hid hn
    clear hn
    have hS0 : wr.drew.cell? ⟨w.heap.size, 3, none⟩ = some (.slice (some ⟨b, o, none⟩) ts.length cp) ∧ wr.drew.cell? ⟨b, o + k, none⟩ = some (.string t) := ⟨(cell_drew _ _).trans x3, (cell_drew _ _).trans hd⟩
    have A0 := (Below.refl wr.heap.size wr).alloc (Nat.le_refl _) (.cells #[.string t] 9)
    have l0 : wr.cell? ⟨w3.heap.size, 3, none⟩ = some v := HBX.out.cell 3
    have l1 : (wr.alloc (.cells #[.string t] 9)).cell? ⟨w3.heap.size, 3, none⟩ = some v := (HBX.out.alloc (.cells #[.string t] 9)).cell 3
    have hbr : b < wr.heap.size := by omega
    have hS0a : (wr.alloc (.cells #[.string t] 9)).drew.cell? ⟨w.heap.size, 3, none⟩ = some (.slice (some ⟨b, o, none⟩) ts.length cp) ∧ (wr.alloc (.cells #[.string t] 9)).drew.cell? ⟨b, o + k, none⟩ = some (.string t) := ⟨(cell_drew _ _).trans ((A0.cell (p := ⟨w.heap.size, 3, none⟩) (by show w.heap.size < wr.heap.size; omega)).trans x3), (cell_drew _ _).trans ((A0.cell (p := ⟨b, o + k, none⟩) hbr).trans hd)⟩
    have hrowT : (wr.alloc (.cells #[.string t] 9)).drew.ownsRow (w3.heap.size + 1) 9 1 v n (ps.map Value.string) := Below.row (below_drewN (Below.refl _ _) 1) (HROW.out.alloc (.cells #[.string t] 9))
    have hnews : ∀ j u, [Value.string t][j]? = some u → (wr.alloc (.cells #[.string t] 9)).drew.cell? ((⟨wr.heap.size, 0, none⟩ : Addr).add j) = some u := fun j u h => (cell_drew _ _).trans (cell_one_new wr (.string t) 9 j u h)
    clear A0
    go_wp2_with fail
    refine wp_region_held (S := fun w' => w'.cell? ⟨w.heap.size, 3, none⟩ = some (.slice (some ⟨b, o, none⟩) ts.length cp) ∧ w'.cell? ⟨b, o + k, none⟩ = some (.string t)) (by kernel_rfl) ?_
    change wpAnyH _ _ _ _ _ _ _ _ (World.drew _)
    refine tkA 0 (.pointer (some ⟨w3.heap.size, 3, none⟩)) rfl hS0 ?_
    refine tkA 2 (.pointer (some ⟨w.heap.size, 3, none⟩)) rfl hS0 ?_
    refine tkA 3 (.slice (some ⟨b, o, none⟩) ts.length cp) rfl hS0 ?_
    refine tkA 4 (.int .i64 (k : Nat)) rfl hS0 ?_
    refine tkA 5 (.pointer (some ⟨b, o + k, none⟩)) rfl hS0 ?_
    refine tkA 6 (.string t) rfl hS0 ?_
    refine held_two 1 7 (by kernel_rfl) (op_value (v := v) (w' := wr.drew) rfl rfl (by go_simp) ⟨hS0, ?_⟩) (op_value (v := .slice (some ⟨wr.heap.size, 0, none⟩) 1 1) (w' := (wr.alloc (.cells #[.string t] 9)).drew) rfl rfl (by go_simp) ⟨hS0a, ?_⟩)
    refine held_one 7 (by kernel_rfl) (op_value (v := .slice (some ⟨wr.heap.size, 0, none⟩) 1 1) (w' := (wr.alloc (.cells #[.string t] 9)).drew) rfl rfl (by go_simp) ⟨hS0a, ?_⟩)
    rotate_left
    refine held_one 1 (by kernel_rfl) (op_value (v := v) (w' := (wr.alloc (.cells #[.string t] 9)).drew) rfl rfl (by go_simp) ⟨hS0a, ?_⟩)
    all_goals
     refine held_one 8 (by kernel_rfl) (op_wp rfl rfl (wp_append_lies _ (.tmp 38) (.tmp 44) 24 rfl (w3.heap.size + 1) 9 i0 (.string ⟨#[]⟩) 1 16 Tryz.underlying24 hi0 hz0 hz1 hz2 rfl (by decide) v n _ (by go_simp) hrowT ⟨wr.heap.size, 0, none⟩ 1 1 [.string t] (by go_simp) rfl hnews (by simp [Value.oneCell']) (by decide) (by unfold maxLen; omega) (by omega) (by show w3.heap.size + 1 ≤ (wr.alloc (.cells #[.string t] 9)).heap.size; simp; omega) (wr.heap.size + 1) (by show (wr.alloc (.cells #[.string t] 9)).heap.size = _; simp) ?_))
     intro g' cap' w6 hown6 hgrow6 _ hlt6
     have hg6 : (wr.alloc (.cells #[.string t] 9)).grownBy w6 v.ownBlock := ⟨hgrow6.os, hgrow6.tape, hgrow6.output, hgrow6.size, hgrow6.block⟩
     obtain ⟨hbx6, hrow7⟩ := text_stored HBX.out HROW.out (by omega) hown6 hg6
     have B6 := ((Below.refl w3.heap.size wr).alloc (by omega) (.cells #[.string t] 9)).grown hg6 (by simp; omega) (fun g e => by have := (HROW.out.lt g e).1; omega)
     have B7 := B6.setCell (p := ⟨w3.heap.size, 3, none⟩) (Nat.le_refl _) (.slice (some ⟨g', 0, none⟩) (n + 1) cap')
     have hS6 : w6.cell? ⟨w.heap.size, 3, none⟩ = some (.slice (some ⟨b, o, none⟩) ts.length cp) ∧ w6.cell? ⟨b, o + k, none⟩ = some (.string t) := ⟨(B6.cell (p := ⟨w.heap.size, 3, none⟩) (by show w.heap.size < w3.heap.size; omega)).trans x3, (B6.cell (p := ⟨b, o + k, none⟩) (by show b < w3.heap.size; omega)).trans ((cell_drew _ _).symm.trans hS0.2)⟩
     have hS7 : (w6.setCell ⟨w3.heap.size, 3, none⟩ (.slice (some ⟨g', 0, none⟩) (n + 1) cap')).cell? ⟨w.heap.size, 3, none⟩ = some (.slice (some ⟨b, o, none⟩) ts.length cp) ∧ (w6.setCell ⟨w3.heap.size, 3, none⟩ (.slice (some ⟨g', 0, none⟩) (n + 1) cap')).cell? ⟨b, o + k, none⟩ = some (.string t) := ⟨(B7.cell (p := ⟨w.heap.size, 3, none⟩) (by show w.heap.size < w3.heap.size; omega)).trans x3, (B7.cell (p := ⟨b, o + k, none⟩) (by show b < w3.heap.size; omega)).trans ((cell_drew _ _).symm.trans hS0.2)⟩
     have c6 : w6.cell? ⟨w3.heap.size, 3, none⟩ = some v := hbx6.cell 3
     have f6 := hbx6.fz 3
     refine ⟨hS6, ?_⟩
     refine tkA 9 (.pointer (some ⟨w3.heap.size, 3, none⟩)) rfl hS6 ?_
     refine held_one 10 (by kernel_rfl) (op_skip (w' := (w6.setCell ⟨w3.heap.size, 3, none⟩ (.slice (some ⟨g', 0, none⟩) (n + 1) cap'))) rfl rfl (by go_simp) ⟨hS7, wpAnyH_done (by kernel_rfl) ?_ _⟩)
     have Z7 := hid (hbx6.set 3 (.slice (some ⟨g', 0, none⟩) (n + 1) cap'))
     have O7 := hid hrow7
     have HB7 := hid (HBL.out.trans (B7.mono (by omega)))
     clear hS0 hS0a hS6 hS7 hbx6 hrow7 hown6 hgrow6 hg6 c6 f6 l0 l1 B6 B7 hrowT hnews
     go_simp
     go_wp2
     refine ⟨⟨k + 1, .slice (some ⟨g', 0, none⟩) (n + 1) cap', by omega, by go_num, Z7.out, ?_, fun g e => (O7.out.lt g e).2, HB7.out⟩, by simp [intOf]; omega⟩
     rw [HST.out, List.length_append, ← HNN.out, List.map_append]
     exact O7.out
  ·obtain rfl : k = ts.length := by omega
   rw [List.take_length] at hrow
   have HROW := hid hrow
   obtain ⟨av, dv, rfl⟩ := row_any hrow
   have N4 := HW7.out.belowAt hbl (by omega)
   have BF := HWB.out.trans (hbl.mono hw3)
   have t3 : wr.cell? ⟨w3.heap.size, 3, none⟩ = some (.slice av (offL name ts).length dv) := hbx.cell 3
   by_cases hno : ∀ i, i < ts.length → tv ts i ≠ name
   ·have hol := off_none hno
    have HF : Hid (UnpinR wd room its ts name 0 0 [] [] 2) := .inr (.inl ⟨⟨HVAL.out, hsz⟩, hno, rfl, rfl, rfl, rfl, rfl⟩)
    rw [hol] at t3
    have s9 := N4.store4 (.int .i64 0) (.int .i64 0) (.slice none 0 0) (.slice none 0 0)
    have s0 := s9.a0; have s1 := s9.a1; have s2 := s9.a2; have s3 := s9.a3
    have k0 := s9.f0; have k1 := s9.f1; have k2 := s9.f2; have k3 := s9.f3
    have Z := hid s9.z
    have BB := hid ((((BF.setCell (p := ⟨w.heap.size + 1, 0, none⟩) (by simp) (.int .i64 0)).setCell (p := ⟨w.heap.size + 1, 1, none⟩) (by simp) (.int .i64 0)).setCell (p := ⟨w.heap.size + 1, 2, none⟩) (by simp) (.slice none 0 0)).setCell (p := ⟨w.heap.size + 1, 3, none⟩) (by simp) (.slice none 0 0))
    clear s9
    clear N4 BF hbx hrow hbl hvl X hno hol
    go_wp2
    refine bodyPost_ret (v := .tuple #[.agg #[.int .i64 0, .int .i64 0, .slice none 0 0, .slice none 0 0], .int .i64 2]) (by simp [results, Tryz.results66, go_sem, Z.out.cell]) rfl ⟨0, 0, [], [], 2, _, _, rfl, HF.out, StoreOwn.none _ _, BB.out⟩
   ·obtain ⟨i, hil, hnm⟩ : ∃ i, i < ts.length ∧ tv ts i = name := by
     refine Classical.byContradiction fun h => hno fun i hi e => h ⟨i, hi, e⟩
    have hol := off_one (okSums_asc HVAL.out.sums) hil hnm
    have hle : (ts.eraseIdx i).length = ts.length - 1 := by rw [List.length_eraseIdx, if_pos hil]
    have HF : Hid (UnpinR wd room its ts name wd room its (ts.eraseIdx i) 0) := .inr (.inr ⟨⟨HVAL.out, hsz⟩, rfl, rfl, rfl, rfl, i, hil, hnm, rfl⟩)
    have hneq : ¬ (((offL name ts).length : Int) = (ts.length : Int)) := by rw [hol, hle]; omega
    have hneq2 : ¬ ((offL name ts).length = ts.length) := by rw [hol, hle]; omega
    have WIr := row_same HWI.out (fun g e => hbl.block g (HLI.out g e).2)
    have SO : StoreOwn wr (w1.heap.size + 1) (.slice a4 its.length c4) (.slice av (offL name ts).length dv) its (offL name ts) := ⟨WIr, ownsRow_base2 hrow (by omega), fun g e e2 => by have h1 := (HLI.out g e).2; have h2 := (HROW.out.lt g e2).1; omega⟩
    have t0 : wr.cell? ⟨w3.heap.size, 0, none⟩ = some (.int .i64 wd) := hbx.cell 0
    have t1 : wr.cell? ⟨w3.heap.size, 1, none⟩ = some (.int .i64 room) := hbx.cell 1
    have t2 : wr.cell? ⟨w3.heap.size, 2, none⟩ = some (.slice a4 its.length c4) := hbx.cell 2
    have s9 := N4.store4 (.int .i64 wd) (.int .i64 room) (.slice a4 its.length c4) (.slice av (offL name ts).length dv)
    have s0 := s9.a0; have s1 := s9.a1; have s2 := s9.a2; have s3 := s9.a3
    have k0 := s9.f0; have k1 := s9.f1; have k2 := s9.f2; have k3 := s9.f3
    have Z := hid s9.z
    have BB := hid ((((BF.setCell (p := ⟨w.heap.size + 1, 0, none⟩) (by simp) (.int .i64 wd)).setCell (p := ⟨w.heap.size + 1, 1, none⟩) (by simp) (.int .i64 room)).setCell (p := ⟨w.heap.size + 1, 2, none⟩) (by simp) (.slice a4 its.length c4)).setCell (p := ⟨w.heap.size + 1, 3, none⟩) (by simp) (.slice av (offL name ts).length dv))
    clear s9
    have GG := fun (x : World) (j : Nat) (y : Value) => grownBy_setCellAt x (w.heap.size + 1) j y
    have SO4 := hid ((((SO.kept (GG _ 0 (.int .i64 wd)) (by omega)).kept (GG _ 1 (.int .i64 room)) (by omega)).kept (GG _ 2 (.slice a4 its.length c4)) (by omega)).kept (GG _ 3 (.slice av (offL name ts).length dv)) (by omega))
    rw [← hol] at HF
    clear N4 BF hbx hrow hbl hvl X hno hol hle SO GG WIr
    generalize offL name ts = ts9 at *
    go_wp2
    refine bodyPost_ret (v := .tuple #[.agg #[.int .i64 wd, .int .i64 room, .slice a4 its.length c4, .slice av ts9.length dv], .int .i64 0]) (by simp [results, Tryz.results66, go_sem, Z.out.cell]) rfl ⟨wd, room, its, ts9, 0, _, _, rfl, HF.out, SO4.out.base (by omega), BB.out⟩
end Go.Proofs.YtkjdabnglcabiaaGreatDoor
/- spec.l4Add: a text put into an ascending row. -/
namespace Go.Proofs.YtkjdabnglcabiaaGreatDoor
open Go.RowKit
/-- append of cells that lie somewhere onto an own row, as a step of a region. -/
theorem wp_append_cells {o : Oper} {a : Act} {w : World} {K : Act → World → Prop} {Q : Exit → Act → World → Prop} (s x : Operand)
  (ho : o.op = .call { callee := .builtin .append, args := #[s, x], argTypes := #[24, 24] }) (B : Nat) (v : Value) (n : Nat) (xs : List Value) (hs : a.eval s = v) (hown : w.ownsRow B 9 1 v n xs)
  (ad : Addr) (k c : Nat) (ys : List Value) (hx : a.eval x = .slice (some ad) k c) (hl : ys.length = k) (hc : ∀ j u, ys[j]? = some u → w.cell? (ad.add j) = some u) (h1 : ∀ u ∈ ys, u.oneCell' = true) (hlen : n + k ≤ 2097152) (hB : B ≤ w.heap.size)
  (h : ∀ v' w', w'.ownsRow B 9 1 v' (n + k) (xs ++ ys) → Below B w w' → w.grownBy w' v.ownBlock → K (a.put o.dst v') w') : o.wp Tryz.prog a w K Q := by
 obtain ⟨i0, hi, hz0, hz1, hz2⟩ := info_parts Tryz.info9
 refine wp_append_own w s x 24 ho B 9 i0 (.string ⟨#[]⟩) 1 16 Tryz.underlying24 hi hz0 hz1 hz2 rfl (by decide) v n xs hs hown ad k c ys hx (by omega) hc h1 (by unfold maxLen; omega) (by omega) hB ?_
 intro v' w' ho' hg' _
 exact h v' w' ho' ((Below.refl B w).grown hg' hB (fun g e => (hown.lt g e).1)) hg'
/-- append of nothing. -/
theorem wp_append_nil {o : Oper} {a : Act} {w : World} {K : Act → World → Prop} {Q : Exit → Act → World → Prop} (s x : Operand)
  (ho : o.op = .call { callee := .builtin .append, args := #[s, x], argTypes := #[24, 24] }) (B : Nat) (v : Value) (n : Nat) (xs : List Value) (hs : a.eval s = v) (hown : w.ownsRow B 9 1 v n xs)
  (hx : a.eval x = .slice none 0 0) (h : K (a.put o.dst v) w) : o.wp Tryz.prog a w K Q := by
 obtain ⟨i0, hi, hz0, hz1, hz2⟩ := info_parts Tryz.info9
 have hrun := run_append_owned_none (P := Tryz.prog) (w := w) B 24 o.type 9 i0 1 Tryz.underlying24 hi v n xs hown
 unfold Oper.wp
 simp [execOp, ho, resolve, invoke, builtin, hs, hx, hrun, Result.andThen]
 exact h
theorem addr_add (g f j : Nat) : (⟨g, f, none⟩ : Addr).add j = ⟨g, f + j, none⟩ := by simp [Addr.add]
theorem part_cells {w : World} {b2 g ca : Nat} {ts : List ByteArray} (hrow : w.ownsRow b2 9 1 (.slice (some ⟨g, 0, none⟩) ts.length ca) ts.length (ts.map Value.string)) (f m : Nat) (j : Nat) (u : Value) (h : (((ts.drop f).take m).map Value.string)[j]? = some u) :
  w.cell? ((⟨g, f, none⟩ : Addr).add j) = some u := by
 have hj := (List.getElem?_eq_some_iff.1 h).1
 simp at hj
 have hc := hrow.cellAt (f + j) (by omega)
 have e : (⟨g, f, none⟩ : Addr).add j = ⟨g, f + j, none⟩ := by simp [Addr.add]
 rw [e, hc]
 rw [List.getElem?_map, List.getElem?_take, if_pos (by omega), List.getElem?_drop] at h
 rw [List.getElem?_map]
 exact h
set_option maxRecDepth 100000 in
set_option maxHeartbeats 1000000 in
theorem l4Add_any (v : Value) (ts : List ByteArray) (s : ByteArray) (b2 : Nat) (w : World) (hrow : w.ownsRow b2 9 1 v ts.length (ts.map Value.string)) (hA : Asc ts) (hl : ts.length ≤ 1048576) :
  Calls Tryz.prog 51 #[v, .string s] w fun e w' => ∃ v', e = .returned v' ∧ ((cutN s ts < ts.length ∧ tv ts (cutN s ts) = s ∧ v' = v ∨ ¬ (cutN s ts < ts.length ∧ tv ts (cutN s ts) = s) ∧ w'.ownsRow w.heap.size 9 1 v' (ts.length + 1) ((ts.take (cutN s ts) ++ s :: ts.drop (cutN s ts)).map Value.string))) ∧ Below w.heap.size w w' := by
 have HR := hid hrow
 have hkl := cutN_le s ts
 have HBE := hid (cut_below s ts)
 have HAB := hid (cut_above s ts hA)
 rcases hrow with ⟨_, ⟨e0, h0⟩ | ⟨g, ca, cur, e0, hg1, hg2, hnc, hmc, _⟩⟩
 ·have e1 : ts = [] := List.eq_nil_of_length_eq_zero h0
  subst e1
  subst e0
  have hc0 : cutN s [] = 0 := by simpa using hkl
  rw [hc0]
  clear HR HBE HAB hkl h0 hc0 hA
  go_enter Tryz.func51, Tryz.ntmps51
  go_wp2
  go_loopw [5] (fun i wr => i = .int .i64 0 ∧ wr = w) (fun i _ => 0)
  case atStart => exact ⟨rfl, rfl⟩
  case round =>
   obtain ⟨rfl, hww⟩ := hrel
   subst hww
   go_wp2_with fail
   refine wp_region_held (S := fun _ => True) (by kernel_rfl) ?_
   change wpAnyH _ _ _ _ _ _ _ _ (World.drew _)
   refine tkA 1 ((.slice none 0 0)) rfl trivial ?_
   refine tkA 2 (.int .i64 0) rfl trivial ?_
   refine tkA 3 ((.slice none 0 0)) rfl trivial ?_
   refine tkA 5 (.string s) rfl trivial ?_
   refine tkA 8 ((.slice none 0 0)) rfl trivial ?_
   refine tkA 9 (.int .i64 0) rfl trivial ?_
   refine tkA 10 ((.slice none 0 0)) rfl trivial ?_
   have D0 : Below wr.heap.size wr wr.drew := below_drewN (Below.refl _ _) 1
   have E0 : (wr.drew.alloc (.cells #[] 9)).ownsRow wr.heap.size 9 1 (.slice (some ⟨wr.heap.size, 0, none⟩) 0 0) 0 [] := World.ownsRow_made wr.drew #[] 0 (Nat.le_refl _) (by simp [maxLen]) rfl
   have EB : ((wr.drew.alloc (.cells #[.string s] 9)).alloc (.cells #[] 9)).ownsRow wr.heap.size 9 1 (.slice (some ⟨wr.heap.size + 1, 0, none⟩) 0 0) 0 [] := by
    have := World.ownsRow_made (base := wr.heap.size) (e := 9) (size := 1) (wr.drew.alloc (.cells #[.string s] 9)) #[] 0 (by rw [World.size_alloc]; exact Nat.le_succ _) (by simp [maxLen]) rfl
    rw [World.size_alloc] at this
    exact this
   have B0 := D0.alloc (Nat.le_refl _) (.cells #[] 9)
   have BA := B0.alloc B0.size (.cells #[.string s] 9)
   have BN := D0.alloc (Nat.le_refl _) (.cells #[.string s] 9)
   have BB := BN.alloc BN.size (.cells #[] 9)
   have sA : (wr.drew.alloc (.cells #[] 9)).heap.size = wr.heap.size + 1 := World.size_alloc _ _
   have sB : (wr.drew.alloc (.cells #[.string s] 9)).heap.size = wr.heap.size + 1 := World.size_alloc _ _
   have NA : ∀ j u, [Value.string s][j]? = some u → ((wr.drew.alloc (.cells #[] 9)).alloc (.cells #[.string s] 9)).cell? ((⟨wr.heap.size + 1, 0, none⟩ : Addr).add j) = some u := fun j u h => by
    have h2 := cell_one_new (wr.drew.alloc (.cells #[] 9)) (.string s) 9 j u h
    rw [sA] at h2
    exact h2
   have NB : ∀ j u, [Value.string s][j]? = some u → ((wr.drew.alloc (.cells #[.string s] 9)).alloc (.cells #[] 9)).cell? ((⟨wr.heap.size, 0, none⟩ : Addr).add j) = some u := fun j u h => by
    have h2 := cell_one_new wr.drew (.string s) 9 j u h
    rw [addr_add] at h2 ⊢
    exact (((Below.refl (wr.heap.size + 1) (wr.drew.alloc (.cells #[.string s] 9))).alloc (Nat.le_of_eq sB.symm) (.cells #[] 9)).cell (p := ⟨wr.heap.size, 0 + j, none⟩) (by show wr.heap.size < _; omega)).trans h2
   have EA := E0.alloc (.cells #[.string s] 9)
   refine held_two 0 6 (by kernel_rfl) (op_value (v := .slice (some ⟨wr.heap.size, 0, none⟩) 0 0) (w' := wr.drew.alloc (.cells #[] 9)) rfl rfl (by go_simp) ⟨trivial, ?_⟩) (op_value (v := .slice (some ⟨wr.heap.size, 0, none⟩) 1 1) (w' := wr.drew.alloc (.cells #[.string s] 9)) rfl rfl (by go_simp) ⟨trivial, ?_⟩)
   ·refine held_two 4 6 (by kernel_rfl) (op_wp rfl rfl (wp_append_nil (.tmp 33) (.tmp 36) rfl wr.heap.size _ 0 [] (by go_simp) E0 (by go_simp) ⟨trivial, ?_⟩)) (op_value (v := .slice (some ⟨wr.heap.size + 1, 0, none⟩) 1 1) (w' := (wr.drew.alloc (.cells #[] 9)).alloc (.cells #[.string s] 9)) rfl rfl (by go_simp) ⟨trivial, ?_⟩)
    ·refine held_one 6 (by kernel_rfl) (op_value (v := .slice (some ⟨wr.heap.size + 1, 0, none⟩) 1 1) (w' := (wr.drew.alloc (.cells #[] 9)).alloc (.cells #[.string s] 9)) rfl rfl (by go_simp) ⟨trivial, ?_⟩)
     have hO := EA; have hN := NA; have hW := BA
     refine held_one 7 (by kernel_rfl) (op_wp rfl rfl (wp_append_cells (.tmp 37) (.tmp 39) rfl wr.heap.size (.slice (some ⟨wr.heap.size, 0, none⟩) 0 0) 0 _ (by go_simp) hO ⟨wr.heap.size + 1, 0, none⟩ 1 1 [.string s] (by go_simp) rfl hN (by simp [Value.oneCell']) (by omega) hW.size ?_))
     intro v2 w7 o7 b7 _
     refine ⟨trivial, ?_⟩
     have B7 := hW.trans b7
     refine held_one 11 (by kernel_rfl) (op_wp rfl rfl (wp_append_nil (.tmp 40) (.tmp 43) rfl wr.heap.size v2 (0 + 1) _ (by go_simp) o7 (by go_simp) ?_))
     refine ⟨trivial, ?_⟩
     refine held_one 12 (by kernel_rfl) (op_value (v := v2) (w' := w7) rfl rfl (by go_simp) ⟨trivial, wpAnyH_done (by kernel_rfl) ?_ _⟩)
     have OF := hid o7
     have BF := hid B7
     clear EA NA NB D0 E0 EB B0 BA BN BB sA sB o7 b7 B7 hO hN hW
     go_simp
     go_wp2
     go_ret
     exact ⟨_, rfl, .inr ⟨fun h => by simp at h, OF.out⟩, BF.out⟩
    ·refine held_one 4 (by kernel_rfl) (op_wp rfl rfl (wp_append_nil (.tmp 33) (.tmp 36) rfl wr.heap.size _ 0 [] (by go_simp) EA (by go_simp) ⟨trivial, ?_⟩))
     have hO := EA; have hN := NA; have hW := BA
     refine held_one 7 (by kernel_rfl) (op_wp rfl rfl (wp_append_cells (.tmp 37) (.tmp 39) rfl wr.heap.size (.slice (some ⟨wr.heap.size, 0, none⟩) 0 0) 0 _ (by go_simp) hO ⟨wr.heap.size + 1, 0, none⟩ 1 1 [.string s] (by go_simp) rfl hN (by simp [Value.oneCell']) (by omega) hW.size ?_))
     intro v2 w7 o7 b7 _
     refine ⟨trivial, ?_⟩
     have B7 := hW.trans b7
     refine held_one 11 (by kernel_rfl) (op_wp rfl rfl (wp_append_nil (.tmp 40) (.tmp 43) rfl wr.heap.size v2 (0 + 1) _ (by go_simp) o7 (by go_simp) ?_))
     refine ⟨trivial, ?_⟩
     refine held_one 12 (by kernel_rfl) (op_value (v := v2) (w' := w7) rfl rfl (by go_simp) ⟨trivial, wpAnyH_done (by kernel_rfl) ?_ _⟩)
     have OF := hid o7
     have BF := hid B7
     clear EA NA NB D0 E0 EB B0 BA BN BB sA sB o7 b7 B7 hO hN hW
     go_simp
     go_wp2
     go_ret
     exact ⟨_, rfl, .inr ⟨fun h => by simp at h, OF.out⟩, BF.out⟩
   ·refine held_one 0 (by kernel_rfl) (op_value (v := .slice (some ⟨wr.heap.size + 1, 0, none⟩) 0 0) (w' := (wr.drew.alloc (.cells #[.string s] 9)).alloc (.cells #[] 9)) rfl rfl (by go_simp) ⟨trivial, ?_⟩)
    refine held_one 4 (by kernel_rfl) (op_wp rfl rfl (wp_append_nil (.tmp 33) (.tmp 36) rfl wr.heap.size _ 0 [] (by go_simp) EB (by go_simp) ⟨trivial, ?_⟩))
    have hO := EB; have hN := NB; have hW := BB
    refine held_one 7 (by kernel_rfl) (op_wp rfl rfl (wp_append_cells (.tmp 37) (.tmp 39) rfl wr.heap.size (.slice (some ⟨wr.heap.size + 1, 0, none⟩) 0 0) 0 _ (by go_simp) hO ⟨wr.heap.size, 0, none⟩ 1 1 [.string s] (by go_simp) rfl hN (by simp [Value.oneCell']) (by omega) hW.size ?_))
    intro v2 w7 o7 b7 _
    refine ⟨trivial, ?_⟩
    have B7 := hW.trans b7
    refine held_one 11 (by kernel_rfl) (op_wp rfl rfl (wp_append_nil (.tmp 40) (.tmp 43) rfl wr.heap.size v2 (0 + 1) _ (by go_simp) o7 (by go_simp) ?_))
    refine ⟨trivial, ?_⟩
    refine held_one 12 (by kernel_rfl) (op_value (v := v2) (w' := w7) rfl rfl (by go_simp) ⟨trivial, wpAnyH_done (by kernel_rfl) ?_ _⟩)
    have OF := hid o7
    have BF := hid B7
    clear EA NA NB D0 E0 EB B0 BA BN BB sA sB o7 b7 B7 hO hN hW
    go_simp
    go_wp2
    go_ret
    exact ⟨_, rfl, .inr ⟨fun h => by simp at h, OF.out⟩, BF.out⟩
 subst e0
 have hgl : g < w.heap.size := by have := (HR.out.lt g rfl).2; exact this
 have hmc' : ca ≤ 9223372036854775807 := by unfold maxLen at hmc; omega
 have HC : Hid (∀ i, i < ts.length → w.cell? ⟨g, i, none⟩ = some (.string (tv ts i))) := fun j hj => by rw [HR.out.cellAt j (by omega)]; simp [tv, hj]
 have HP := hid fun f m => part_cells HR.out f m
 clear hA hg2 hg1 hmc
 generalize cutN s ts = c at *
 go_enter Tryz.func51, Tryz.ntmps51
 go_wp2
 go_loopw [5] (fun i wr => ∃ k : Nat, k ≤ c ∧ i = .int .i64 k ∧ wr = w) (fun i _ => c - (intOf i).toNat)
 case atStart => exact ⟨0, Nat.zero_le _, rfl, rfl⟩
 case round =>
  obtain ⟨k, hk, rfl, rfl⟩ := hrel
  by_cases hlt : k < c
  ·have hc1 := HC.out k (by omega)
   have hx := HBE.out k hlt
   generalize tv ts k = x at *
   unfold tlt at hx
   go_wp2
   refine ⟨⟨k + 1, by omega, by go_num, trivial⟩, by simp [intOf]; omega⟩
  ·obtain rfl : k = c := by omega
   by_cases hyes : k < ts.length ∧ tv ts k = s
   ·have hin := hyes.1
    have hc1 := HC.out k hin
    have hx := HAB.out k (Nat.le_refl _) hin
    rw [hyes.2] at hc1 hx
    unfold tlt at hx
    have HY := hid hyes
    clear hyes
    go_wp2
    go_ret
    exact ⟨_, rfl, .inl ⟨HY.out.1, HY.out.2, rfl⟩, Below.refl _ _⟩
   have HNO := hid hyes
   by_cases hin : k < ts.length
   ·have hc1 := HC.out k hin
    have hx := HAB.out k (Nat.le_refl _) hin
    have hee : ((tv ts k).toList == s.toList) = false := by
     rw [Bool.eq_false_iff]
     exact fun e => hyes ⟨hin, text_eq (eq_of_beq e)⟩
    clear hyes
    generalize tv ts k = x at hc1 hx hee
    unfold tlt at hx
    go_wp2_with fail
    have hkca : ¬ ca < k := by omega
    obtain ⟨o, ho, hoc⟩ : ∃ o, (if ca = k then some (⟨g, 0, none⟩ : Addr) else some ⟨g, k, none⟩) = some ⟨g, o, none⟩ ∧ (ca = k ∨ o = k) := by
     by_cases h : ca = k
     ·exact ⟨0, by rw [if_pos h], .inl h⟩
     ·exact ⟨k, by rw [if_neg h], .inr rfl⟩
    refine wp_region_held (S := fun _ => True) (by kernel_rfl) ?_
    change wpAnyH _ _ _ _ _ _ _ _ (World.drew _)
    refine tkA 1 ((.slice (some ⟨g, 0, none⟩) ts.length ca)) rfl trivial ?_
    refine tkA 2 (.int .i64 (k : Nat)) rfl trivial ?_
    refine tkA 3 ((.slice (some ⟨g, 0, none⟩) k ca)) rfl trivial ?_
    refine tkA 5 (.string s) rfl trivial ?_
    refine tkA 8 ((.slice (some ⟨g, 0, none⟩) ts.length ca)) rfl trivial ?_
    refine tkA 9 (.int .i64 (k : Nat)) rfl trivial ?_
    refine tkA 10 ((.slice (some ⟨g, o, none⟩) (ts.length - k) (ca - k))) rfl trivial ?_
    have D0 : Below wr.heap.size wr wr.drew := below_drewN (Below.refl _ _) 1
    have E0 : (wr.drew.alloc (.cells #[] 9)).ownsRow wr.heap.size 9 1 (.slice (some ⟨wr.heap.size, 0, none⟩) 0 0) 0 [] := World.ownsRow_made wr.drew #[] 0 (Nat.le_refl _) (by simp [maxLen]) rfl
    have EB : ((wr.drew.alloc (.cells #[.string s] 9)).alloc (.cells #[] 9)).ownsRow wr.heap.size 9 1 (.slice (some ⟨wr.heap.size + 1, 0, none⟩) 0 0) 0 [] := by
     have := World.ownsRow_made (base := wr.heap.size) (e := 9) (size := 1) (wr.drew.alloc (.cells #[.string s] 9)) #[] 0 (by rw [World.size_alloc]; exact Nat.le_succ _) (by simp [maxLen]) rfl
     rw [World.size_alloc] at this
     exact this
    have B0 := D0.alloc (Nat.le_refl _) (.cells #[] 9)
    have BA := B0.alloc B0.size (.cells #[.string s] 9)
    have BN := D0.alloc (Nat.le_refl _) (.cells #[.string s] 9)
    have BB := BN.alloc BN.size (.cells #[] 9)
    have hk1 : (((ts.drop 0).take k).map Value.string).length = k := by simp; omega
    have hone : ∀ (f m : Nat) (u : Value), u ∈ ((ts.drop f).take m).map Value.string → u.oneCell' = true := fun f m u hu => by obtain ⟨x, _, rfl⟩ := List.mem_map.1 hu; rfl
    have hsrc : ∀ (W : World), Below wr.heap.size wr W → ∀ (f m j : Nat) (u : Value), (((ts.drop f).take m).map Value.string)[j]? = some u → W.cell? ((⟨g, f, none⟩ : Addr).add j) = some u := fun W hW f m j u hu => by
     have h2 := HP.out f m j u hu
     rw [addr_add] at h2 ⊢
     exact (hW.cell (p := ⟨g, f + j, none⟩) (by show g < _; omega)).trans h2
    have sA : (wr.drew.alloc (.cells #[] 9)).heap.size = wr.heap.size + 1 := World.size_alloc _ _
    have sB : (wr.drew.alloc (.cells #[.string s] 9)).heap.size = wr.heap.size + 1 := World.size_alloc _ _
    refine held_two 0 6 (by kernel_rfl) (op_value (v := .slice (some ⟨wr.heap.size, 0, none⟩) 0 0) (w' := wr.drew.alloc (.cells #[] 9)) rfl rfl (by go_simp) ⟨trivial, ?_⟩) (op_value (v := .slice (some ⟨wr.heap.size, 0, none⟩) 1 1) (w' := wr.drew.alloc (.cells #[.string s] 9)) rfl rfl (by go_simp) ⟨trivial, ?_⟩)
    ·refine held_two 4 6 (by kernel_rfl) (op_wp rfl rfl (wp_append_cells (.tmp 33) (.tmp 36) rfl wr.heap.size _ 0 [] (by go_simp) E0 ⟨g, 0, none⟩ k ca _ (by go_simp) hk1 (hsrc _ B0 0 k) (hone 0 k) (by omega) B0.size ?_)) (op_value (v := .slice (some ⟨wr.heap.size + 1, 0, none⟩) 1 1) (w' := (wr.drew.alloc (.cells #[] 9)).alloc (.cells #[.string s] 9)) rfl rfl (by go_simp) ⟨trivial, ?_⟩)
     ·intro v1 w4 o4 b4 g4
      refine ⟨trivial, held_one 6 (by kernel_rfl) (op_value (v := .slice (some ⟨w4.heap.size, 0, none⟩) 1 1) (w' := w4.alloc (.cells #[.string s] 9)) rfl rfl (by go_simp) ⟨trivial, ?_⟩)⟩
      have B4 := B0.trans b4
      have hO := o4.alloc (.cells #[.string s] 9)
      have hN := cell_one_new w4 (.string s) 9
      have hW := B4.alloc B4.size (.cells #[.string s] 9)
      generalize w4.alloc (.cells #[.string s] 9) = W at *
      generalize w4.heap.size = q at *
      refine held_one 7 (by kernel_rfl) (op_wp rfl rfl (wp_append_cells (.tmp 37) (.tmp 39) rfl wr.heap.size v1 (0 + k) _ (by go_simp) hO ⟨q, 0, none⟩ 1 1 [.string s] (by go_simp) rfl hN (by simp [Value.oneCell']) (by omega) hW.size ?_))
      intro v2 w7 o7 b7 _
      refine ⟨trivial, ?_⟩
      have B7 := hW.trans b7
      refine held_one 11 (by kernel_rfl) (op_wp rfl rfl (wp_append_cells (.tmp 40) (.tmp 43) rfl wr.heap.size v2 (0 + k + 1) _ (by go_simp) o7 ⟨g, o, none⟩ (ts.length - k) (ca - k) _ (by go_simp) (by simp) (fun j u hu => by
       rcases hoc with h | h
       ·have h9 := (List.getElem?_eq_some_iff.1 hu).1
        simp at h9
        omega
       ·rw [h]; exact hsrc _ B7 k (ts.length - k) j u hu) (hone k (ts.length - k)) (by omega) B7.size ?_))
      intro v3 w11 o11 b11 _
      refine ⟨trivial, ?_⟩
      refine held_one 12 (by kernel_rfl) (op_value (v := v3) (w' := w11) rfl rfl (by go_simp) ⟨trivial, wpAnyH_done (by kernel_rfl) ?_ _⟩)
      have OF := hid o11
      have BF := hid (B7.trans b11)
      clear D0 E0 EB B0 BA BN BB hsrc hone hk1 sA sB o7 o11 b7 b11 B7 hO hN hW
      go_simp
      go_wp2
      go_ret
      refine ⟨_, rfl, .inr ⟨HNO.out, ?_⟩, BF.out⟩
      have h1 := OF.out
      have e1 : 0 + k + 1 + (ts.length - k) = ts.length + 1 := by omega
      have e2 : [] ++ ((ts.drop 0).take k).map Value.string ++ [Value.string s] ++ ((ts.drop k).take (ts.length - k)).map Value.string = (ts.take k ++ s :: ts.drop k).map Value.string := by
       have e3 : (ts.drop k).take (ts.length - k) = ts.drop k := List.take_of_length_le (by rw [List.length_drop]; omega)
       rw [e3]
       simp
      rw [e1, e2] at h1
      exact h1
     ·refine held_one 4 (by kernel_rfl) (op_wp rfl rfl (wp_append_cells (.tmp 33) (.tmp 36) rfl wr.heap.size _ 0 [] (by go_simp) (E0.alloc (.cells #[.string s] 9)) ⟨g, 0, none⟩ k ca _ (by go_simp) hk1 (hsrc _ BA 0 k) (hone 0 k) (by omega) BA.size ?_))
      intro v1 W hO b4 g4
      refine ⟨trivial, ?_⟩
      have hW := BA.trans b4
      have hN : ∀ j u, [Value.string s][j]? = some u → W.cell? ((⟨wr.heap.size + 1, 0, none⟩ : Addr).add j) = some u := fun j u h => by
       have h2 := cell_one_new (wr.drew.alloc (.cells #[] 9)) (.string s) 9 j u h
       rw [sA, addr_add] at h2
       rw [addr_add]
       exact (g4.cell_far ⟨wr.heap.size + 1, 0 + j, none⟩ (by show wr.heap.size + 1 < _; rw [World.size_alloc, sA]; omega) (fun e => by have h3 : wr.heap.size + 1 = wr.heap.size := Option.some.inj e; omega)).trans h2
      generalize wr.heap.size + 1 = q at hN ⊢
      refine held_one 7 (by kernel_rfl) (op_wp rfl rfl (wp_append_cells (.tmp 37) (.tmp 39) rfl wr.heap.size v1 (0 + k) _ (by go_simp) hO ⟨q, 0, none⟩ 1 1 [.string s] (by go_simp) rfl hN (by simp [Value.oneCell']) (by omega) hW.size ?_))
      intro v2 w7 o7 b7 _
      refine ⟨trivial, ?_⟩
      have B7 := hW.trans b7
      refine held_one 11 (by kernel_rfl) (op_wp rfl rfl (wp_append_cells (.tmp 40) (.tmp 43) rfl wr.heap.size v2 (0 + k + 1) _ (by go_simp) o7 ⟨g, o, none⟩ (ts.length - k) (ca - k) _ (by go_simp) (by simp) (fun j u hu => by
       rcases hoc with h | h
       ·have h9 := (List.getElem?_eq_some_iff.1 hu).1
        simp at h9
        omega
       ·rw [h]; exact hsrc _ B7 k (ts.length - k) j u hu) (hone k (ts.length - k)) (by omega) B7.size ?_))
      intro v3 w11 o11 b11 _
      refine ⟨trivial, ?_⟩
      refine held_one 12 (by kernel_rfl) (op_value (v := v3) (w' := w11) rfl rfl (by go_simp) ⟨trivial, wpAnyH_done (by kernel_rfl) ?_ _⟩)
      have OF := hid o11
      have BF := hid (B7.trans b11)
      clear D0 E0 EB B0 BA BN BB hsrc hone hk1 sA sB o7 o11 b7 b11 B7 hO hN hW
      go_simp
      go_wp2
      go_ret
      refine ⟨_, rfl, .inr ⟨HNO.out, ?_⟩, BF.out⟩
      have h1 := OF.out
      have e1 : 0 + k + 1 + (ts.length - k) = ts.length + 1 := by omega
      have e2 : [] ++ ((ts.drop 0).take k).map Value.string ++ [Value.string s] ++ ((ts.drop k).take (ts.length - k)).map Value.string = (ts.take k ++ s :: ts.drop k).map Value.string := by
       have e3 : (ts.drop k).take (ts.length - k) = ts.drop k := List.take_of_length_le (by rw [List.length_drop]; omega)
       rw [e3]
       simp
      rw [e1, e2] at h1
      exact h1
    ·refine held_one 0 (by kernel_rfl) (op_value (v := .slice (some ⟨wr.heap.size + 1, 0, none⟩) 0 0) (w' := (wr.drew.alloc (.cells #[.string s] 9)).alloc (.cells #[] 9)) rfl rfl (by go_simp) ⟨trivial, ?_⟩)
     refine held_one 4 (by kernel_rfl) (op_wp rfl rfl (wp_append_cells (.tmp 33) (.tmp 36) rfl wr.heap.size _ 0 [] (by go_simp) EB ⟨g, 0, none⟩ k ca _ (by go_simp) hk1 (hsrc _ BB 0 k) (hone 0 k) (by omega) BB.size ?_))
     intro v1 W hO b4 g4
     refine ⟨trivial, ?_⟩
     have hW := BB.trans b4
     have hN : ∀ j u, [Value.string s][j]? = some u → W.cell? ((⟨wr.heap.size, 0, none⟩ : Addr).add j) = some u := fun j u h => by
      have h2 := cell_one_new wr.drew (.string s) 9 j u h
      rw [addr_add] at h2 ⊢
      refine (g4.cell_far ⟨wr.heap.size, 0 + j, none⟩ (by show wr.heap.size < _; rw [World.size_alloc, sB]; omega) (fun e => by have h3 : wr.heap.size = wr.heap.size + 1 := Option.some.inj e; omega)).trans ?_
      exact (((Below.refl (wr.heap.size + 1) (wr.drew.alloc (.cells #[.string s] 9))).alloc (Nat.le_of_eq sB.symm) (.cells #[] 9)).cell (p := ⟨wr.heap.size, 0 + j, none⟩) (by show wr.heap.size < _; omega)).trans h2
     refine held_one 7 (by kernel_rfl) (op_wp rfl rfl (wp_append_cells (.tmp 37) (.tmp 39) rfl wr.heap.size v1 (0 + k) _ (by go_simp) hO ⟨wr.heap.size, 0, none⟩ 1 1 [.string s] (by go_simp) rfl hN (by simp [Value.oneCell']) (by omega) hW.size ?_))
     intro v2 w7 o7 b7 _
     refine ⟨trivial, ?_⟩
     have B7 := hW.trans b7
     refine held_one 11 (by kernel_rfl) (op_wp rfl rfl (wp_append_cells (.tmp 40) (.tmp 43) rfl wr.heap.size v2 (0 + k + 1) _ (by go_simp) o7 ⟨g, o, none⟩ (ts.length - k) (ca - k) _ (by go_simp) (by simp) (fun j u hu => by
       rcases hoc with h | h
       ·have h9 := (List.getElem?_eq_some_iff.1 hu).1
        simp at h9
        omega
       ·rw [h]; exact hsrc _ B7 k (ts.length - k) j u hu) (hone k (ts.length - k)) (by omega) B7.size ?_))
     intro v3 w11 o11 b11 _
     refine ⟨trivial, ?_⟩
     refine held_one 12 (by kernel_rfl) (op_value (v := v3) (w' := w11) rfl rfl (by go_simp) ⟨trivial, wpAnyH_done (by kernel_rfl) ?_ _⟩)
     have OF := hid o11
     have BF := hid (B7.trans b11)
     clear D0 E0 EB B0 BA BN BB hsrc hone hk1 sA sB o7 o11 b7 b11 B7 hO hN hW
     go_simp
     go_wp2
     go_ret
     refine ⟨_, rfl, .inr ⟨HNO.out, ?_⟩, BF.out⟩
     have h1 := OF.out
     have e1 : 0 + k + 1 + (ts.length - k) = ts.length + 1 := by omega
     have e2 : [] ++ ((ts.drop 0).take k).map Value.string ++ [Value.string s] ++ ((ts.drop k).take (ts.length - k)).map Value.string = (ts.take k ++ s :: ts.drop k).map Value.string := by
      have e3 : (ts.drop k).take (ts.length - k) = ts.drop k := List.take_of_length_le (by rw [List.length_drop]; omega)
      rw [e3]
      simp
     rw [e1, e2] at h1
     exact h1
   ·clear hyes
    go_wp2_with fail
    have hkca : ¬ ca < k := by omega
    obtain ⟨o, ho, hoc⟩ : ∃ o, (if ca = k then some (⟨g, 0, none⟩ : Addr) else some ⟨g, k, none⟩) = some ⟨g, o, none⟩ ∧ (ca = k ∨ o = k) := by
     by_cases h : ca = k
     ·exact ⟨0, by rw [if_pos h], .inl h⟩
     ·exact ⟨k, by rw [if_neg h], .inr rfl⟩
    refine wp_region_held (S := fun _ => True) (by kernel_rfl) ?_
    change wpAnyH _ _ _ _ _ _ _ _ (World.drew _)
    refine tkA 1 ((.slice (some ⟨g, 0, none⟩) ts.length ca)) rfl trivial ?_
    refine tkA 2 (.int .i64 (k : Nat)) rfl trivial ?_
    refine tkA 3 ((.slice (some ⟨g, 0, none⟩) k ca)) rfl trivial ?_
    refine tkA 5 (.string s) rfl trivial ?_
    refine tkA 8 ((.slice (some ⟨g, 0, none⟩) ts.length ca)) rfl trivial ?_
    refine tkA 9 (.int .i64 (k : Nat)) rfl trivial ?_
    refine tkA 10 ((.slice (some ⟨g, o, none⟩) (ts.length - k) (ca - k))) rfl trivial ?_
    have D0 : Below wr.heap.size wr wr.drew := below_drewN (Below.refl _ _) 1
    have E0 : (wr.drew.alloc (.cells #[] 9)).ownsRow wr.heap.size 9 1 (.slice (some ⟨wr.heap.size, 0, none⟩) 0 0) 0 [] := World.ownsRow_made wr.drew #[] 0 (Nat.le_refl _) (by simp [maxLen]) rfl
    have EB : ((wr.drew.alloc (.cells #[.string s] 9)).alloc (.cells #[] 9)).ownsRow wr.heap.size 9 1 (.slice (some ⟨wr.heap.size + 1, 0, none⟩) 0 0) 0 [] := by
     have := World.ownsRow_made (base := wr.heap.size) (e := 9) (size := 1) (wr.drew.alloc (.cells #[.string s] 9)) #[] 0 (by rw [World.size_alloc]; exact Nat.le_succ _) (by simp [maxLen]) rfl
     rw [World.size_alloc] at this
     exact this
    have B0 := D0.alloc (Nat.le_refl _) (.cells #[] 9)
    have BA := B0.alloc B0.size (.cells #[.string s] 9)
    have BN := D0.alloc (Nat.le_refl _) (.cells #[.string s] 9)
    have BB := BN.alloc BN.size (.cells #[] 9)
    have hk1 : (((ts.drop 0).take k).map Value.string).length = k := by simp; omega
    have hone : ∀ (f m : Nat) (u : Value), u ∈ ((ts.drop f).take m).map Value.string → u.oneCell' = true := fun f m u hu => by obtain ⟨x, _, rfl⟩ := List.mem_map.1 hu; rfl
    have hsrc : ∀ (W : World), Below wr.heap.size wr W → ∀ (f m j : Nat) (u : Value), (((ts.drop f).take m).map Value.string)[j]? = some u → W.cell? ((⟨g, f, none⟩ : Addr).add j) = some u := fun W hW f m j u hu => by
     have h2 := HP.out f m j u hu
     rw [addr_add] at h2 ⊢
     exact (hW.cell (p := ⟨g, f + j, none⟩) (by show g < _; omega)).trans h2
    have sA : (wr.drew.alloc (.cells #[] 9)).heap.size = wr.heap.size + 1 := World.size_alloc _ _
    have sB : (wr.drew.alloc (.cells #[.string s] 9)).heap.size = wr.heap.size + 1 := World.size_alloc _ _
    refine held_two 0 6 (by kernel_rfl) (op_value (v := .slice (some ⟨wr.heap.size, 0, none⟩) 0 0) (w' := wr.drew.alloc (.cells #[] 9)) rfl rfl (by go_simp) ⟨trivial, ?_⟩) (op_value (v := .slice (some ⟨wr.heap.size, 0, none⟩) 1 1) (w' := wr.drew.alloc (.cells #[.string s] 9)) rfl rfl (by go_simp) ⟨trivial, ?_⟩)
    ·refine held_two 4 6 (by kernel_rfl) (op_wp rfl rfl (wp_append_cells (.tmp 33) (.tmp 36) rfl wr.heap.size _ 0 [] (by go_simp) E0 ⟨g, 0, none⟩ k ca _ (by go_simp) hk1 (hsrc _ B0 0 k) (hone 0 k) (by omega) B0.size ?_)) (op_value (v := .slice (some ⟨wr.heap.size + 1, 0, none⟩) 1 1) (w' := (wr.drew.alloc (.cells #[] 9)).alloc (.cells #[.string s] 9)) rfl rfl (by go_simp) ⟨trivial, ?_⟩)
     ·intro v1 w4 o4 b4 g4
      refine ⟨trivial, held_one 6 (by kernel_rfl) (op_value (v := .slice (some ⟨w4.heap.size, 0, none⟩) 1 1) (w' := w4.alloc (.cells #[.string s] 9)) rfl rfl (by go_simp) ⟨trivial, ?_⟩)⟩
      have B4 := B0.trans b4
      have hO := o4.alloc (.cells #[.string s] 9)
      have hN := cell_one_new w4 (.string s) 9
      have hW := B4.alloc B4.size (.cells #[.string s] 9)
      generalize w4.alloc (.cells #[.string s] 9) = W at *
      generalize w4.heap.size = q at *
      refine held_one 7 (by kernel_rfl) (op_wp rfl rfl (wp_append_cells (.tmp 37) (.tmp 39) rfl wr.heap.size v1 (0 + k) _ (by go_simp) hO ⟨q, 0, none⟩ 1 1 [.string s] (by go_simp) rfl hN (by simp [Value.oneCell']) (by omega) hW.size ?_))
      intro v2 w7 o7 b7 _
      refine ⟨trivial, ?_⟩
      have B7 := hW.trans b7
      refine held_one 11 (by kernel_rfl) (op_wp rfl rfl (wp_append_cells (.tmp 40) (.tmp 43) rfl wr.heap.size v2 (0 + k + 1) _ (by go_simp) o7 ⟨g, o, none⟩ (ts.length - k) (ca - k) _ (by go_simp) (by simp) (fun j u hu => by
       rcases hoc with h | h
       ·have h9 := (List.getElem?_eq_some_iff.1 hu).1
        simp at h9
        omega
       ·rw [h]; exact hsrc _ B7 k (ts.length - k) j u hu) (hone k (ts.length - k)) (by omega) B7.size ?_))
      intro v3 w11 o11 b11 _
      refine ⟨trivial, ?_⟩
      refine held_one 12 (by kernel_rfl) (op_value (v := v3) (w' := w11) rfl rfl (by go_simp) ⟨trivial, wpAnyH_done (by kernel_rfl) ?_ _⟩)
      have OF := hid o11
      have BF := hid (B7.trans b11)
      clear D0 E0 EB B0 BA BN BB hsrc hone hk1 sA sB o7 o11 b7 b11 B7 hO hN hW
      go_simp
      go_wp2
      go_ret
      refine ⟨_, rfl, .inr ⟨HNO.out, ?_⟩, BF.out⟩
      have h1 := OF.out
      have e1 : 0 + k + 1 + (ts.length - k) = ts.length + 1 := by omega
      have e2 : [] ++ ((ts.drop 0).take k).map Value.string ++ [Value.string s] ++ ((ts.drop k).take (ts.length - k)).map Value.string = (ts.take k ++ s :: ts.drop k).map Value.string := by
       have e3 : (ts.drop k).take (ts.length - k) = ts.drop k := List.take_of_length_le (by rw [List.length_drop]; omega)
       rw [e3]
       simp
      rw [e1, e2] at h1
      exact h1
     ·refine held_one 4 (by kernel_rfl) (op_wp rfl rfl (wp_append_cells (.tmp 33) (.tmp 36) rfl wr.heap.size _ 0 [] (by go_simp) (E0.alloc (.cells #[.string s] 9)) ⟨g, 0, none⟩ k ca _ (by go_simp) hk1 (hsrc _ BA 0 k) (hone 0 k) (by omega) BA.size ?_))
      intro v1 W hO b4 g4
      refine ⟨trivial, ?_⟩
      have hW := BA.trans b4
      have hN : ∀ j u, [Value.string s][j]? = some u → W.cell? ((⟨wr.heap.size + 1, 0, none⟩ : Addr).add j) = some u := fun j u h => by
       have h2 := cell_one_new (wr.drew.alloc (.cells #[] 9)) (.string s) 9 j u h
       rw [sA, addr_add] at h2
       rw [addr_add]
       exact (g4.cell_far ⟨wr.heap.size + 1, 0 + j, none⟩ (by show wr.heap.size + 1 < _; rw [World.size_alloc, sA]; omega) (fun e => by have h3 : wr.heap.size + 1 = wr.heap.size := Option.some.inj e; omega)).trans h2
      generalize wr.heap.size + 1 = q at hN ⊢
      refine held_one 7 (by kernel_rfl) (op_wp rfl rfl (wp_append_cells (.tmp 37) (.tmp 39) rfl wr.heap.size v1 (0 + k) _ (by go_simp) hO ⟨q, 0, none⟩ 1 1 [.string s] (by go_simp) rfl hN (by simp [Value.oneCell']) (by omega) hW.size ?_))
      intro v2 w7 o7 b7 _
      refine ⟨trivial, ?_⟩
      have B7 := hW.trans b7
      refine held_one 11 (by kernel_rfl) (op_wp rfl rfl (wp_append_cells (.tmp 40) (.tmp 43) rfl wr.heap.size v2 (0 + k + 1) _ (by go_simp) o7 ⟨g, o, none⟩ (ts.length - k) (ca - k) _ (by go_simp) (by simp) (fun j u hu => by
       rcases hoc with h | h
       ·have h9 := (List.getElem?_eq_some_iff.1 hu).1
        simp at h9
        omega
       ·rw [h]; exact hsrc _ B7 k (ts.length - k) j u hu) (hone k (ts.length - k)) (by omega) B7.size ?_))
      intro v3 w11 o11 b11 _
      refine ⟨trivial, ?_⟩
      refine held_one 12 (by kernel_rfl) (op_value (v := v3) (w' := w11) rfl rfl (by go_simp) ⟨trivial, wpAnyH_done (by kernel_rfl) ?_ _⟩)
      have OF := hid o11
      have BF := hid (B7.trans b11)
      clear D0 E0 EB B0 BA BN BB hsrc hone hk1 sA sB o7 o11 b7 b11 B7 hO hN hW
      go_simp
      go_wp2
      go_ret
      refine ⟨_, rfl, .inr ⟨HNO.out, ?_⟩, BF.out⟩
      have h1 := OF.out
      have e1 : 0 + k + 1 + (ts.length - k) = ts.length + 1 := by omega
      have e2 : [] ++ ((ts.drop 0).take k).map Value.string ++ [Value.string s] ++ ((ts.drop k).take (ts.length - k)).map Value.string = (ts.take k ++ s :: ts.drop k).map Value.string := by
       have e3 : (ts.drop k).take (ts.length - k) = ts.drop k := List.take_of_length_le (by rw [List.length_drop]; omega)
       rw [e3]
       simp
      rw [e1, e2] at h1
      exact h1
    ·refine held_one 0 (by kernel_rfl) (op_value (v := .slice (some ⟨wr.heap.size + 1, 0, none⟩) 0 0) (w' := (wr.drew.alloc (.cells #[.string s] 9)).alloc (.cells #[] 9)) rfl rfl (by go_simp) ⟨trivial, ?_⟩)
     refine held_one 4 (by kernel_rfl) (op_wp rfl rfl (wp_append_cells (.tmp 33) (.tmp 36) rfl wr.heap.size _ 0 [] (by go_simp) EB ⟨g, 0, none⟩ k ca _ (by go_simp) hk1 (hsrc _ BB 0 k) (hone 0 k) (by omega) BB.size ?_))
     intro v1 W hO b4 g4
     refine ⟨trivial, ?_⟩
     have hW := BB.trans b4
     have hN : ∀ j u, [Value.string s][j]? = some u → W.cell? ((⟨wr.heap.size, 0, none⟩ : Addr).add j) = some u := fun j u h => by
      have h2 := cell_one_new wr.drew (.string s) 9 j u h
      rw [addr_add] at h2 ⊢
      refine (g4.cell_far ⟨wr.heap.size, 0 + j, none⟩ (by show wr.heap.size < _; rw [World.size_alloc, sB]; omega) (fun e => by have h3 : wr.heap.size = wr.heap.size + 1 := Option.some.inj e; omega)).trans ?_
      exact (((Below.refl (wr.heap.size + 1) (wr.drew.alloc (.cells #[.string s] 9))).alloc (Nat.le_of_eq sB.symm) (.cells #[] 9)).cell (p := ⟨wr.heap.size, 0 + j, none⟩) (by show wr.heap.size < _; omega)).trans h2
     refine held_one 7 (by kernel_rfl) (op_wp rfl rfl (wp_append_cells (.tmp 37) (.tmp 39) rfl wr.heap.size v1 (0 + k) _ (by go_simp) hO ⟨wr.heap.size, 0, none⟩ 1 1 [.string s] (by go_simp) rfl hN (by simp [Value.oneCell']) (by omega) hW.size ?_))
     intro v2 w7 o7 b7 _
     refine ⟨trivial, ?_⟩
     have B7 := hW.trans b7
     refine held_one 11 (by kernel_rfl) (op_wp rfl rfl (wp_append_cells (.tmp 40) (.tmp 43) rfl wr.heap.size v2 (0 + k + 1) _ (by go_simp) o7 ⟨g, o, none⟩ (ts.length - k) (ca - k) _ (by go_simp) (by simp) (fun j u hu => by
       rcases hoc with h | h
       ·have h9 := (List.getElem?_eq_some_iff.1 hu).1
        simp at h9
        omega
       ·rw [h]; exact hsrc _ B7 k (ts.length - k) j u hu) (hone k (ts.length - k)) (by omega) B7.size ?_))
     intro v3 w11 o11 b11 _
     refine ⟨trivial, ?_⟩
     refine held_one 12 (by kernel_rfl) (op_value (v := v3) (w' := w11) rfl rfl (by go_simp) ⟨trivial, wpAnyH_done (by kernel_rfl) ?_ _⟩)
     have OF := hid o11
     have BF := hid (B7.trans b11)
     clear D0 E0 EB B0 BA BN BB hsrc hone hk1 sA sB o7 o11 b7 b11 B7 hO hN hW
     go_simp
     go_wp2
     go_ret
     refine ⟨_, rfl, .inr ⟨HNO.out, ?_⟩, BF.out⟩
     have h1 := OF.out
     have e1 : 0 + k + 1 + (ts.length - k) = ts.length + 1 := by omega
     have e2 : [] ++ ((ts.drop 0).take k).map Value.string ++ [Value.string s] ++ ((ts.drop k).take (ts.length - k)).map Value.string = (ts.take k ++ s :: ts.drop k).map Value.string := by
      have e3 : (ts.drop k).take (ts.length - k) = ts.drop k := List.take_of_length_le (by rw [List.length_drop]; omega)
      rw [e3]
      simp
     rw [e1, e2] at h1
     exact h1
end Go.Proofs.YtkjdabnglcabiaaGreatDoor
