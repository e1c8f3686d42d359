import Derived.Test.YtlnkhbnbcmllaaaGreatGetImpl
import Derived.Test.YtlnkhbnbcmllaaaGreatUnpinMath
import Derived.Test.YtlnkhbnbcmllaaaGreatFetchTo
import Derived.Test.YtlnkhbnbcmllaaaGreatHeapPop
/- spec.l4Copy of a store in rows that have grown. -/
namespace Go.Proofs.YtlnkhbnbcmllaaaGreat
open Go.RowKit
theorem rowI_below {w w' : World} {B : Nat} {v : Value} {its : Itms} (h : w.ownsRow B 84 2 v its.length (cellsI its)) (hb : Below w.heap.size w w') : w'.ownsRow B 84 2 v its.length (cellsI its) := h.kept (grown_of_below hb) (by cases hv : v.ownBlock <;> simp)
/-- append of items onto an own row of none. -/
theorem append_itemsR {ops : Array Oper} {rest : List Oper} {o : Oper} {a : Act} {w : World} {Q : Exit → Act → World → Prop} (hgd : o.guard = none) (s x : Operand)
    (ho : o.op = .call { callee := .builtin .append, args := #[s, x], argTypes := #[32, 32] }) (B : Nat) (v : Value) (hs : a.eval s = v) (hown : w.ownsRow B 84 2 v 0 [])
    (b2 : Nat) (v2 : Value) (its : Itms) (hx : a.eval x = v2) (hrow : w.ownsRow b2 84 2 v2 its.length (cellsI its)) (hlen : its.length ≤ 1048576) (hB : B ≤ w.heap.size)
    (h : ∀ v' w', w'.ownsRow B 84 2 v' its.length (cellsI its) → Below B w w' → wpList Tryz.prog ops Q rest (a.put o.dst v') w') : wpList Tryz.prog ops Q (o :: rest) a w := by
  obtain ⟨i0, hi, hz0, hz1, hz2⟩ := info_parts Tryz.infoItem
  have hrow0 := hrow
  rcases hrow with ⟨hl, ⟨rfl, h0⟩ | ⟨g, cap, cur, rfl, hb, hg, hn, hm, hsz, hxs⟩⟩
  · have : its = [] := List.eq_nil_of_length_eq_zero h0
    subst this
    exact wpList_append_own_none hgd s x 32 ho B 84 i0 2 Tryz.underlying32 hi v 0 [] hs hown hx (h v w hown (Below.refl _ _))
  · refine wpList_append_own w hgd s x 32 ho B 84 i0 (.agg #[.string ⟨#[]⟩, .int .i64 0]) 2 24 Tryz.underlying32 hi hz0 hz1 hz2 rfl (by decide) v 0 [] hs hown ⟨g, 0, none⟩ its.length cap (cellsI its) hx (cellsI_len its) (fun j u hj => ?_) (cellsI_one its) (by unfold maxLen; omega) (by omega) hB ?_
    · have hjl := (List.getElem?_eq_some_iff.1 hj).1
      have hc := hrow0.cellAt j (by rw [cellsI_len] at hjl; omega)
      have e : (⟨g, 0, none⟩ : Addr).add j = ⟨g, j, none⟩ := by simp [Addr.add]; intro h; exact h.symm
      rw [e, hc, hj]
    · intro v' w' ho' hg' _
      refine h v' w' ?_ ((Below.refl B w).grown hg' hB (fun g e => (hown.lt g e).1))
      rw [Nat.zero_add, List.nil_append] at ho'
      exact ho'
set_option maxRecDepth 100000 in
set_option maxHeartbeats 1000000 in
theorem l4Copy_row (wd room : Int) (vi vp : Value) (its : Itms) (ts : List ByteArray) (w : World) (b1 b2 : Nat) (hi : w.ownsRow b1 84 2 vi its.length (cellsI its)) (hp : w.ownsRow b2 9 1 vp ts.length (ts.map Value.string)) (hl : its.length ≤ 1048576) (hlp : ts.length ≤ 1048576) :
    Calls Tryz.prog 22 #[.agg #[.int .i64 wd, .int .i64 room, vi, vp]] w fun e w' => ∃ vi' vp', e = .returned (.agg #[.int .i64 wd, .int .i64 room, vi', vp']) ∧ w'.ownsRow (w.heap.size + 1) 84 2 vi' its.length (cellsI its) ∧ w'.ownsRow (w.heap.size + 1) 9 1 vp' ts.length (ts.map Value.string) ∧ (∀ g, vi'.ownBlock = some g → vp'.ownBlock ≠ some g) ∧ Below w.heap.size w w' := by
  obtain ⟨ag, cg, rfl⟩ := row_any hi
  obtain ⟨ap, cp, rfl, _⟩ := row_form hp
  have hA0 := ((Below.refl w.heap.size w).alloc (Nat.le_refl _) (.cells #[.int .i64 wd, .int .i64 room, .slice ag its.length cg, .slice ap ts.length cp] 34)).alloc (by simp) (.cells #[.int .i64 0, .int .i64 0, .slice none 0 0, .slice none 0 0] 34)
  have hA := hA0.alloc (by simp; omega) (.cells #[] 84)
  have hN1 := ((Blk.new w 34 #[.int .i64 wd, .int .i64 room, .slice ag its.length cg, .slice ap ts.length cp]).alloc (.cells #[.int .i64 0, .int .i64 0, .slice none 0 0, .slice none 0 0] 34)).alloc (.cells #[] 84)
  have hN2 := (Blk.new (w.alloc (.cells #[.int .i64 wd, .int .i64 room, .slice ag its.length cg, .slice ap ts.length cp] 34)) 34 #[.int .i64 0, .int .i64 0, .slice none 0 0, .slice none 0 0]).alloc (.cells #[] 84)
  rw [World.size_alloc] at hN2
  have hO : (((w.alloc (.cells #[.int .i64 wd, .int .i64 room, .slice ag its.length cg, .slice ap ts.length cp] 34)).alloc (.cells #[.int .i64 0, .int .i64 0, .slice none 0 0, .slice none 0 0] 34)).alloc (.cells #[] 84)).ownsRow (w.heap.size + 2) 84 2 (.slice (some ⟨w.heap.size + 1 + 1, 0, none⟩) 0 0) 0 [] := by
    have := World.ownsRow_made (base := w.heap.size + 2) (e := 84) (size := 2) ((w.alloc (.cells #[.int .i64 wd, .int .i64 room, .slice ag its.length cg, .slice ap ts.length cp] 34)).alloc (.cells #[.int .i64 0, .int .i64 0, .slice none 0 0, .slice none 0 0] 34)) #[] 0 (by simp) (by simp [maxLen]) rfl
    rw [World.size_alloc, World.size_alloc] at this
    exact this
  have hI := rowI_below hi hA
  have HP := hid (Below.row hA hp)
  have HN1 := hid hN1
  have HN2 := hid hN2
  have HA := hid hA
  have HP0 := hid hp
  clear hi hp hA hA0 hN1 hN2
  go_enter Tryz.func22, Tryz.ntmps22
  go_upto_region 2 with (at_builtin; refine append_itemsR rfl _ _ rfl (w.heap.size + 2) _ rfl hO b1 _ its (by go_simp) hI hl (by simp) ?_; intro v1 w1 ho1 hb1; obtain ⟨a1, c1, rfl⟩ := row_any ho1; have M1 := HN1.out.belowAt hb1 (by omega); have c2 := M1.cell 2; have f2 := M1.fz 2)
  have M1s := M1.set 2 (.slice a1 its.length c1)
  have hU := grownBy_setCellAt w1 w.heap.size 2 (.slice a1 its.length c1)
  have hBW := HA.out.trans (hb1.mono (by omega))
  have hBU := hBW.setCell (p := ⟨w.heap.size, 2, none⟩) (Nat.le_refl _) (.slice a1 its.length c1)
  have N2 := (HN2.out.belowAt hb1 (by omega)).kept hU (fun e => by simp at e)
  have c3 : ∀ o, ((w1.setCell ⟨w.heap.size, 2, none⟩ (.slice a1 its.length c1)).alloc o).cell? ⟨w.heap.size, 3, none⟩ = some (.slice ap ts.length cp) := fun o => (M1s.alloc o).cell 3
  have hO2 : ((w1.setCell ⟨w.heap.size, 2, none⟩ (.slice a1 its.length c1)).alloc (.cells #[] 9)).ownsRow w1.heap.size 9 1 (.slice (some ⟨w1.heap.size, 0, none⟩) 0 0) 0 [] := by simpa using World.ownsRow_made (base := (w1.setCell ⟨w.heap.size, 2, none⟩ (.slice a1 its.length c1)).heap.size) (e := 9) (size := 1) (w1.setCell ⟨w.heap.size, 2, none⟩ (.slice a1 its.length c1)) #[] 0 (Nat.le_refl _) (by simp [maxLen]) rfl
  have hP2 := Below.row (hBU.alloc hBU.size (.cells #[] 9)) HP0.out
  have hz2 : w.heap.size + 1 < w1.heap.size := by have := N2.lt; simpa using this
  have HO1 := hid (ho1.kept hU (.inr fun e => by have := (ho1.lt _ e).1; omega))
  have HL1 := hid fun g' (e : (Value.slice a1 its.length c1).ownBlock = some g') => ho1.lt g' e
  clear hI hO c2 f2 M1 hU ho1 hb1
  go_upto_region 3 with (at_builtin; refine append_texts rfl _ _ rfl w1.heap.size (.slice (some ⟨w1.heap.size, 0, none⟩) 0 0) rfl hO2 b2 _ ts (by go_simp) hP2 hlp (by simp) ?_; intro v2 w2 ho2 hb2; obtain ⟨a2, c2, rfl⟩ := row_any ho2; have M2 := (M1s.alloc (.cells #[] 9)).belowAt hb2 (by omega); have d3 := M2.cell 3; have g3 := M2.fz 3)
  have M2s := M2.set 3 (.slice a2 ts.length c2)
  have hV := grownBy_setCellAt w2 w.heap.size 3 (.slice a2 ts.length c2)
  have r0 : (w2.setCell ⟨w.heap.size, 3, none⟩ (.slice a2 ts.length c2)).cell? ⟨w.heap.size, 0, none⟩ = some (.int .i64 wd) := M2s.cell 0
  have r1 : (w2.setCell ⟨w.heap.size, 3, none⟩ (.slice a2 ts.length c2)).cell? ⟨w.heap.size, 1, none⟩ = some (.int .i64 room) := M2s.cell 1
  have r2 : (w2.setCell ⟨w.heap.size, 3, none⟩ (.slice a2 ts.length c2)).cell? ⟨w.heap.size, 2, none⟩ = some (.slice a1 its.length c1) := M2s.cell 2
  have r3 : (w2.setCell ⟨w.heap.size, 3, none⟩ (.slice a2 ts.length c2)).cell? ⟨w.heap.size, 3, none⟩ = some (.slice a2 ts.length c2) := M2s.cell 3
  have N3 := ((N2.alloc (.cells #[] 9)).belowAt hb2 (by omega)).kept hV (fun e => by simp at e)
  have s := N3.store4 (.int .i64 wd) (.int .i64 room) (.slice a1 its.length c1) (.slice a2 ts.length c2)
  have s0 := s.a0; have s1 := s.a1; have s2 := s.a2; have s3 := s.a3
  have k0 := s.f0; have k1 := s.f1; have k2 := s.f2; have k3 := s.f3
  have Z := hid s.z
  have hlw : ∀ g', (Value.slice a1 its.length c1).ownBlock = some g' → g' < w1.heap.size := fun g' e => (HL1.out g' e).2
  have h1S : (Value.slice a1 its.length c1).ownBlock ≠ some w.heap.size := fun e => by have := (HL1.out _ e).1; omega
  have h1T : (Value.slice a1 its.length c1).ownBlock ≠ some (w.heap.size + 1) := fun e => by have := (HL1.out _ e).1; omega
  have O1 : w2.ownsRow (w.heap.size + 2) 84 2 (.slice a1 its.length c1) its.length (cellsI its) := by
    have h := HO1.out.alloc (.cells #[] 9)
    rcases h with ⟨q, r | ⟨g', cap, cur, e1, q1, q2, q3⟩⟩
    · exact ⟨q, .inl r⟩
    · refine ⟨q, .inr ⟨g', cap, cur, e1, q1, (hb2.block g' (hlw g' (by rw [e1]; rfl))).trans q2, q3⟩⟩
  have l2 : ∀ g', (Value.slice a2 ts.length c2).ownBlock = some g' → w1.heap.size ≤ g' := fun g' e => (ho2.lt g' e).1
  have h2S : (Value.slice a2 ts.length c2).ownBlock ≠ some w.heap.size := fun e => by have := l2 _ e; omega
  have h2T : (Value.slice a2 ts.length c2).ownBlock ≠ some (w.heap.size + 1) := fun e => by have := l2 _ e; omega
  have GG := fun (x : World) (i : Nat) (y : Value) => grownBy_setCellAt x (w.heap.size + 1) i y
  have OI := hid (((((O1.kept hV (.inr h1S)).kept (GG _ 0 (.int .i64 wd)) (.inr h1T)).kept (GG _ 1 (.int .i64 room)) (.inr h1T)).kept (GG _ 2 (.slice a1 its.length c1)) (.inr h1T)).kept (GG _ 3 (.slice a2 ts.length c2)) (.inr h1T))
  have OP := hid (((((ho2.kept hV (.inr h2S)).kept (GG _ 0 (.int .i64 wd)) (.inr h2T)).kept (GG _ 1 (.int .i64 room)) (.inr h2T)).kept (GG _ 2 (.slice a1 its.length c1)) (.inr h2T)).kept (GG _ 3 (.slice a2 ts.length c2)) (.inr h2T))
  have HAP : Hid (∀ g', (Value.slice a1 its.length c1).ownBlock = some g' → (Value.slice a2 ts.length c2).ownBlock ≠ some g') := fun g' e e2 => by have h1 := hlw g' e; have h2 := l2 g' e2; omega
  have BB := hid ((((((hBU.alloc hBU.size (.cells #[] 9)).trans (hb2.mono (by omega))).setCell (p := ⟨w.heap.size, 3, none⟩) (Nat.le_refl _) (.slice a2 ts.length c2)).setCell (p := ⟨w.heap.size + 1, 0, none⟩) (by simp) (.int .i64 wd)).setCell (p := ⟨w.heap.size + 1, 1, none⟩) (by simp) (.int .i64 room)).setCell (p := ⟨w.heap.size + 1, 2, none⟩) (by simp) (.slice a1 its.length c1) |>.setCell (p := ⟨w.heap.size + 1, 3, none⟩) (by simp) (.slice a2 ts.length c2))
  clear s N2 N3 M1s M2 M2s c3 hO2 hP2 hb2 ho2 O1 GG hV hBW hBU d3 g3
  go_wp2
  refine bodyPost_ret (v := .agg #[.int .i64 wd, .int .i64 room, .slice a1 its.length c1, .slice a2 ts.length c2]) (by simp [results, Tryz.results22, go_sem, Z.out.cell]) rfl ⟨_, _, rfl, ownsRow_base2 OI.out (by omega), ownsRow_base2 OP.out (by omega), HAP.out, BB.out⟩
end Go.Proofs.YtlnkhbnbcmllaaaGreat
/- Rows of items of their own, read. -/
namespace Go.Proofs.YtlnkhbnbcmllaaaGreat
open Go.RowKit
end Go.Proofs.YtlnkhbnbcmllaaaGreat
/- spec.Unpin: left out. -/
namespace Go.Proofs.YtlnkhbnbcmllaaaGreat
open Go.RowKit
end Go.Proofs.YtlnkhbnbcmllaaaGreat
/- spec.l4Add: a text put into an ascending row. -/
namespace Go.Proofs.YtlnkhbnbcmllaaaGreat
open Go.RowKit
end Go.Proofs.YtlnkhbnbcmllaaaGreat
/- spec.Pin. -/
namespace Go.Proofs.YtlnkhbnbcmllaaaGreat
open Go.RowKit
end Go.Proofs.YtlnkhbnbcmllaaaGreat
/- spec.NewFetch. -/
namespace Go.Proofs.YtlnkhbnbcmllaaaGreat
open Go.RowKit
abbrev fzero : Array Value := #[.string ⟨#[]⟩, .int .i64 0, .bool false, .int .i64 0, .int .i64 0, .slice none 0 0, .slice none 0 0, .slice none 0 0]
end Go.Proofs.YtlnkhbnbcmllaaaGreat
/- spec.l7Copy. -/
namespace Go.Proofs.YtlnkhbnbcmllaaaGreat
open Go.RowKit
theorem rows_off {w : World} {B B' s s' n n' : Nat} {e e' : TypeId} {v v' : Value} {xs xs' : List Value} (h : w.ownsRow B e s v n xs) (k : w.ownsRow B' e' s' v' n' xs') (hne : e ≠ e') {g : Nat} (h1 : v.ownBlock = some g) (h2 : v'.ownBlock = some g) : False := by
  obtain ⟨_, ⟨f, _⟩ | ⟨b, cap', cur', f, _, f3, _⟩⟩ := k
  · subst f; cases h2
  · subst f
    obtain rfl : b = g := Option.some.inj h2
    obtain ⟨_, ⟨f, _⟩ | ⟨c, cap, cur, f, _, k3, _⟩⟩ := h
    · subst f; cases h1
    · subst f
      obtain rfl : c = b := Option.some.inj h1
      rw [f3] at k3
      exact hne (Obj.cells.inj (Option.some.inj k3)).2.1.symm
theorem row_off_blk {w : World} {B size n : Nat} {e T : TypeId} {v : Value} {xs : List Value} {cs : Array Value} {b : Nat} (h : w.ownsRow B e size v n xs) (k : Blk w b T cs) (hne : e ≠ T) (hb : v.ownBlock = some b) : False := by
  obtain ⟨_, ⟨e1, _⟩ | ⟨g, cap, cur, e1, _, e3, _⟩⟩ := h
  · subst e1; cases hb
  · subst e1
    obtain rfl : g = b := Option.some.inj hb
    have h2 : w.heap[g]? = some (.cells cs T (0, 0)) := k
    rw [e3] at h2
    exact hne (Obj.cells.inj (Option.some.inj h2)).2.1
theorem cellsQ_add (qs : PV) (p : Pr) (u : Value) : cellsQ (qs ++ [(p, u)]) = cellsQ qs ++ [.int .i64 p.lies, .int .i64 p.wait, .int .i64 p.last, .string p.asked, u] := by
  unfold cellsQ
  rw [List.flatMap_append]
  simp
theorem qp_snoc (qs : PV) (q : Pr × Value) (j : Nat) (h : j < qs.length) : qp (qs ++ [q]) j = qp qs j := by
  unfold qp
  rw [List.getD_eq_getElem?_getD, List.getElem?_append_left h, ← List.getD_eq_getElem?_getD]
theorem qv_snoc (qs : PV) (q : Pr × Value) (j : Nat) (h : j < qs.length) : qv (qs ++ [q]) j = qv qs j := by
  unfold qv
  rw [List.getD_eq_getElem?_getD, List.getElem?_append_left h, ← List.getD_eq_getElem?_getD]
/-- One peer more at the end of a row of peers. -/
theorem PeersOwn.snoc {w0 w6 : World} {B : Nat} {v v' u : Value} {qs : PV} {p : Pr} (h : PeersOwn w0 B v qs) (hg : w0.grownBy w6 v.ownBlock) (hrow : w6.ownsRow B 81 5 v' (qs.length + 1) (cellsQ qs ++ [.int .i64 p.lies, .int .i64 p.wait, .int .i64 p.last, .string p.asked, u])) (hu : w0.ownsRow B 9 1 u p.nots.length (p.nots.map Value.string)) (hap : ∀ i, i < qs.length → ∀ g, (qv qs i).ownBlock = some g → u.ownBlock ≠ some g) : PeersOwn w6 B v' (qs ++ [(p, u)]) := by
  have hl : (qs ++ [(p, u)]).length = qs.length + 1 := by simp
  have P0 : qp (qs ++ [(p, u)]) qs.length = p := by simp [qp]
  have V0 : qv (qs ++ [(p, u)]) qs.length = u := by simp [qv]
  have hkb : ∀ i, i < qs.length + 1 → i = qs.length ∨ i < qs.length := fun i hi => by omega
  have hn : ∀ i, i < qs.length → w6.ownsRow B 9 1 (qv qs i) (qp qs i).nots.length ((qp qs i).nots.map Value.string) := fun i hi => (h.nots i hi).kept hg (by
    cases e : (qv qs i).ownBlock with
    | none => exact .inl rfl
    | some g => exact .inr fun e2 => h.apart i hi g e e2.symm)
  have hu6 : w6.ownsRow B 9 1 u p.nots.length (p.nots.map Value.string) := hu.kept hg (by
    cases e : u.ownBlock with
    | none => exact .inl rfl
    | some g => exact .inr fun e2 => rows_off hu h.row (by decide) e e2.symm)
  refine ⟨by rw [hl, cellsQ_add]; exact hrow, fun i hi => ?_, fun i hi g e e2 => ?_, fun i j hi hj hij g => ?_⟩
  · rw [hl] at hi
    rcases hkb i hi with rfl | hi'
    · rw [P0, V0]; exact hu6
    · rw [qp_snoc qs _ i hi', qv_snoc qs _ i hi']; exact hn i hi'
  · rw [hl] at hi
    rcases hkb i hi with rfl | hi'
    · rw [V0] at e; exact rows_off hu6 hrow (by decide) e e2
    · rw [qv_snoc qs _ i hi'] at e; exact rows_off (hn i hi') hrow (by decide) e e2
  · rw [hl] at hi hj
    rcases hkb i hi with rfl | hi' <;> rcases hkb j hj with rfl | hj'
    · exact absurd rfl hij
    · rw [V0, qv_snoc qs _ j hj']; exact fun e e2 => hap j hj' g e2 e
    · rw [V0, qv_snoc qs _ i hi']; exact fun e e2 => hap i hi' g e e2
    · rw [qv_snoc qs _ i hi', qv_snoc qs _ j hj']; exact h.apart2 i j hi' hj' hij g
theorem But.grownR {P : Nat → Prop} {w A A' : World} {row : Option Nat} (h : But P w A) (hg : A.grownBy A' row) (hr : ∀ r, row = some r → w.heap.size ≤ r) : But P w A' :=
  ⟨hg.os.trans h.os, hg.tape.trans h.tape, hg.output.trans h.output, Nat.le_trans h.size hg.size, fun b hb hn => (hg.block b (Nat.lt_of_lt_of_le hb h.size) (fun e => by have := hr b e.symm; omega)).trans (h.block b hb hn)⟩
set_option maxRecDepth 100000 in
set_option maxHeartbeats 8000000 in
theorem l7Copy_any (nm : ByteArray) (now : Int) (full : Bool) (wd room : Int) (vi vp vq : Value) (its : Itms) (ts : List ByteArray) (qs : PV) (w : World) (B : Nat) (hf : FetchOwn w B vi vp vq its ts qs) (hli : its.length ≤ 1048576) (hlp : ts.length ≤ 1048576) (hlq : qs.length ≤ 1048576) (hnl : ∀ i, i < qs.length → (qp qs i).nots.length ≤ 1048576) :
    Calls Tryz.prog 20 #[fval nm now full wd room vi vp vq] w fun e w' => ∃ vi' vp' vq' qs', e = .returned (fval nm now full wd room vi' vp' vq') ∧ qs'.map Prod.fst = qs.map Prod.fst ∧ FetchOwn w' (w.heap.size + 2) vi' vp' vq' its ts qs' ∧ Below w.heap.size w w' := by
  obtain ⟨ai, ci, hvi⟩ := row_any hf.store.items
  subst hvi
  obtain ⟨ap, cp, hvp⟩ := row_any hf.store.pins
  subst hvp
  obtain ⟨aq, cq, hvq⟩ := row_any hf.peers.row
  subst hvq
  obtain ⟨i0, hi0, hz0, hz1, hz2⟩ := info_parts Tryz.infoPeer
  have hA := ((Below.refl w.heap.size w).alloc (Nat.le_refl _) (.cells (fcells nm now full wd room (.slice ai its.length ci) (.slice ap ts.length cp) (.slice aq qs.length cq)) 37)).alloc (by simp) (.cells fzero 37)
  have hN := (Blk.new w 37 (fcells nm now full wd room (.slice ai its.length ci) (.slice ap ts.length cp) (.slice aq qs.length cq))).alloc (.cells fzero 37)
  have hN7 := Blk.new (w.alloc (.cells (fcells nm now full wd room (.slice ai its.length ci) (.slice ap ts.length cp) (.slice aq qs.length cq)) 37)) 37 fzero
  rw [World.size_alloc] at hN7
  obtain ⟨w2, hw2⟩ : ∃ x, x = (w.alloc (.cells (fcells nm now full wd room (.slice ai its.length ci) (.slice ap ts.length cp) (.slice aq qs.length cq)) 37)).alloc (.cells fzero 37) := ⟨_, rfl⟩
  have hz2' : w2.heap.size = w.heap.size + 2 := by rw [hw2, World.size_alloc, World.size_alloc]
  rw [← hw2] at hA hN hN7
  have HF := hid hf
  have HA := hid hA
  have HN := hid hN
  have HN7 := hid hN7
  have hs2a : w.heap.size + 2 ≤ w2.heap.size := by omega
  have hs2b : w2.heap.size ≤ w.heap.size + 2 := by omega
  have HCP := hid fun W a b => l4Copy_row wd room (.slice ai its.length ci) (.slice ap ts.length cp) its ts W B B a b hli hlp
  have HNL := hid hnl
  have HSF := hid fun (W : World) (h : Below w2.heap.size w2 W) => (show W.cell? ⟨w.heap.size, 0, none⟩ = some (.string nm) ∧ W.cell? ⟨w.heap.size, 1, none⟩ = some (.int .i64 now) ∧ W.cell? ⟨w.heap.size, 2, none⟩ = some (.bool full) ∧ W.cell? ⟨w.heap.size, 3, none⟩ = some (.int .i64 wd) ∧ W.cell? ⟨w.heap.size, 4, none⟩ = some (.int .i64 room) ∧ W.cell? ⟨w.heap.size, 5, none⟩ = some (.slice ai its.length ci) ∧ W.cell? ⟨w.heap.size, 6, none⟩ = some (.slice ap ts.length cp) from by
    have X := HN.out.below h
    exact ⟨X.cell 0, X.cell 1, X.cell 2, X.cell 3, X.cell 4, X.cell 5, X.cell 6⟩)
  have hbd : Below w2.heap.size w2 w2.drew := below_drewN (Below.refl _ _) 1
  have hS0 := HSF.out w2.drew hbd
  have hec1 := enters_of Tryz.func22 (by kernel_rfl) rfl
  clear hf hA hN hN7 hz2' hnl
  go_enter Tryz.func20, Tryz.ntmps20
  go_upto_region 1 with fail
  rw [← hw2]
  clear hw2
  go_cut [3] from 6 to 15 (fun s3 wx => ∃ ob v1 p1, s3 = .pointer (some ⟨ob, 0, none⟩) ∧ Blk wx ob 37 (fcells nm now full wd room v1 p1 (.slice none 0 0)) ∧ StoreOwn wx w2.heap.size v1 p1 its ts ∧ w2.heap.size ≤ ob ∧ Below w2.heap.size w2 wx)
  case first =>
    refine wp_region_held (S := fun w' => w'.cell? ⟨w.heap.size, 0, none⟩ = some (.string nm) ∧ w'.cell? ⟨w.heap.size, 1, none⟩ = some (.int .i64 now) ∧ w'.cell? ⟨w.heap.size, 2, none⟩ = some (.bool full) ∧ w'.cell? ⟨w.heap.size, 3, none⟩ = some (.int .i64 wd) ∧ w'.cell? ⟨w.heap.size, 4, none⟩ = some (.int .i64 room) ∧ w'.cell? ⟨w.heap.size, 5, none⟩ = some (.slice ai its.length ci) ∧ w'.cell? ⟨w.heap.size, 6, none⟩ = some (.slice ap ts.length cp)) (by kernel_rfl) ?_
    change wpAnyH _ _ _ _ _ _ _ _ (World.drew _)
    refine wpAnyH_take (i := 0) (v := .pointer (some ⟨w.heap.size, 0, none⟩)) rfl (by kernel_rfl) (by kernel_rfl) (by kernel_rfl) (fun _ _ _ h => h) (.inl ⟨rfl, fun w' hS => by obtain ⟨s1, s2, s3, s4, s5, s6, s7⟩ := hS; go_simp⟩) hS0 ?_
    refine wpAnyH_take (i := 1) (v := .string nm) rfl (by kernel_rfl) (by kernel_rfl) (by kernel_rfl) (fun _ _ _ h => h) (.inl ⟨rfl, fun w' hS => by obtain ⟨s1, s2, s3, s4, s5, s6, s7⟩ := hS; go_simp⟩) hS0 ?_
    refine wpAnyH_take (i := 2) (v := .pointer (some ⟨w.heap.size, 1, none⟩)) rfl (by kernel_rfl) (by kernel_rfl) (by kernel_rfl) (fun _ _ _ h => h) (.inl ⟨rfl, fun w' hS => by obtain ⟨s1, s2, s3, s4, s5, s6, s7⟩ := hS; go_simp⟩) hS0 ?_
    refine wpAnyH_take (i := 3) (v := .int .i64 now) rfl (by kernel_rfl) (by kernel_rfl) (by kernel_rfl) (fun _ _ _ h => h) (.inl ⟨rfl, fun w' hS => by obtain ⟨s1, s2, s3, s4, s5, s6, s7⟩ := hS; go_simp⟩) hS0 ?_
    refine wpAnyH_take (i := 4) (v := .pointer (some ⟨w.heap.size, 2, none⟩)) rfl (by kernel_rfl) (by kernel_rfl) (by kernel_rfl) (fun _ _ _ h => h) (.inl ⟨rfl, fun w' hS => by obtain ⟨s1, s2, s3, s4, s5, s6, s7⟩ := hS; go_simp⟩) hS0 ?_
    refine wpAnyH_take (i := 5) (v := .bool full) rfl (by kernel_rfl) (by kernel_rfl) (by kernel_rfl) (fun _ _ _ h => h) (.inl ⟨rfl, fun w' hS => by obtain ⟨s1, s2, s3, s4, s5, s6, s7⟩ := hS; go_simp⟩) hS0 ?_
    refine wpAnyH_take (i := 6) (v := .pointer (some ⟨w.heap.size, 3, none⟩)) rfl (by kernel_rfl) (by kernel_rfl) (by kernel_rfl) (fun _ _ _ h => h) (.inl ⟨rfl, fun w' hS => by obtain ⟨s1, s2, s3, s4, s5, s6, s7⟩ := hS; go_simp⟩) hS0 ?_
    refine wpAnyH_take (i := 7) (v := .agg #[.int .i64 wd, .int .i64 room, .slice ai its.length ci, .slice ap ts.length cp]) rfl (by kernel_rfl) (by kernel_rfl) (by kernel_rfl) (fun _ _ _ h => h) (.inl ⟨rfl, fun w' hS => by obtain ⟨s1, s2, s3, s4, s5, s6, s7⟩ := hS; go_simp⟩) hS0 ?_
    refine held_two 8 10 (by kernel_rfl) ?A ?B
    case A =>
      refine op_calls (f := 22) (args := #[.agg #[.int .i64 wd, .int .i64 room, .slice ai its.length ci, .slice ap ts.length cp]]) rfl rfl (by go_simp) (HCP.out _ (rowI_below HF.out.store.items (HA.out.trans (hbd.mono HA.out.size))) (Below.row (HA.out.trans (hbd.mono HA.out.size)) HF.out.store.pins)) ?_
      rintro e w3 ⟨v1, p1, rfl, oi3, op3, hap3, hb3⟩
      obtain ⟨a1, c1, rfl⟩ := row_any oi3
      obtain ⟨b1, d1, rfl⟩ := row_any op3
      have B3 : Below w2.heap.size w2 w3 := hbd.trans (hb3.mono hbd.size)
      have hz3 := hbd.size
      have hz4 := hb3.size
      have hS3 := HSF.out w3 B3
      have SO3 : StoreOwn w3 w2.heap.size (.slice a1 its.length c1) (.slice b1 ts.length d1) its ts := ⟨ownsRow_base2 oi3 (by omega), ownsRow_base2 op3 (by omega), hap3⟩
      refine ⟨_, rfl, hS3, ?_⟩
      refine wpAnyH_take (i := 9) (v := .agg #[.string nm, .int .i64 now, .bool full, .int .i64 wd, .int .i64 room, .slice a1 its.length c1, .slice b1 ts.length d1, .slice none 0 0]) rfl (by kernel_rfl) (by kernel_rfl) (by kernel_rfl) (fun _ _ _ h => h) (.inl ⟨rfl, fun w' hS => by obtain ⟨s1, s2, s3, s4, s5, s6, s7⟩ := hS; go_simp⟩) hS3 ?_
      have BE := B3.alloc B3.size (.cells fzero 37)
      have hS4 := HSF.out _ BE
      have BF := B3.alloc B3.size (.cells (fcells nm now full wd room (.slice a1 its.length c1) (.slice b1 ts.length d1) (.slice none 0 0)) 37)
      have hS5 := HSF.out _ BF
      have HBF := hid BF
      have HSO := hid (show StoreOwn (w3.alloc (.cells (fcells nm now full wd room (.slice a1 its.length c1) (.slice b1 ts.length d1) (.slice none 0 0)) 37)) w2.heap.size (.slice a1 its.length c1) (.slice b1 ts.length d1) its ts from ⟨SO3.items.alloc _, SO3.pins.alloc _, SO3.apart⟩)
      refine held_one 10 (by kernel_rfl) (op_value (v := .pointer (some ⟨w3.heap.size, 0, none⟩)) (w' := w3.alloc (.cells fzero 37)) rfl rfl (by go_simp) ⟨hS4, ?_⟩)
      refine held_one 11 (by kernel_rfl) (op_skip (w' := w3.alloc (.cells (fcells nm now full wd room (.slice a1 its.length c1) (.slice b1 ts.length d1) (.slice none 0 0)) 37)) rfl rfl (by go_simp) ⟨hS5, wpAnyH_done (by kernel_rfl) ?_ _⟩)
      clear hS0 hS3 hS4 hS5 BE BF SO3 oi3 op3 hap3 hb3
      go_simp
      go_wp2_with fail
      go_meet
      exact ⟨w3.heap.size, _, _, rfl, Blk.new w3 37 _, HSO.out, B3.size, HBF.out⟩
    case B =>
      have hA4 : Below w2.heap.size w2 (w2.alloc (.cells fzero 37)).drew := below_drewN ((Below.refl w2.heap.size w2).alloc (Nat.le_refl _) (.cells fzero 37)) 1
      have hSb := HSF.out _ hA4
      have N2 := Blk.new w2 37 fzero
      refine op_value (v := .pointer (some ⟨w2.heap.size, 0, none⟩)) (w' := (w2.alloc (.cells fzero 37)).drew) rfl rfl (by go_simp) ⟨hSb, ?_⟩
      refine held_one 8 (by kernel_rfl) (op_calls (f := 22) (args := #[.agg #[.int .i64 wd, .int .i64 room, .slice ai its.length ci, .slice ap ts.length cp]]) rfl rfl (by go_simp) (HCP.out _ (rowI_below HF.out.store.items (HA.out.trans (hA4.mono HA.out.size))) (Below.row (HA.out.trans (hA4.mono HA.out.size)) HF.out.store.pins)) ?_)
      rintro e w3 ⟨v1, p1, rfl, oi3, op3, hap3, hb3⟩
      obtain ⟨a1, c1, rfl⟩ := row_any oi3
      obtain ⟨b1, d1, rfl⟩ := row_any op3
      have B3 : Below w2.heap.size w2 w3 := hA4.trans (hb3.mono hA4.size)
      have hz3 := hA4.size
      have hz4 := hb3.size
      have hS3 := HSF.out w3 B3
      have SO3 : StoreOwn w3 w2.heap.size (.slice a1 its.length c1) (.slice b1 ts.length d1) its ts := ⟨ownsRow_base2 oi3 (by omega), ownsRow_base2 op3 (by omega), hap3⟩
      refine ⟨_, rfl, hS3, ?_⟩
      refine wpAnyH_take (i := 9) (v := .agg #[.string nm, .int .i64 now, .bool full, .int .i64 wd, .int .i64 room, .slice a1 its.length c1, .slice b1 ts.length d1, .slice none 0 0]) rfl (by kernel_rfl) (by kernel_rfl) (by kernel_rfl) (fun _ _ _ h => h) (.inl ⟨rfl, fun w' hS => by obtain ⟨s1, s2, s3, s4, s5, s6, s7⟩ := hS; go_simp⟩) hS3 ?_
      have N5 : Blk w3 w2.heap.size 37 fzero := (hb3.block _ N2.lt).trans N2
      have s := N5.store8 (.string nm) (.int .i64 now) (.bool full) (.int .i64 wd) (.int .i64 room) (.slice a1 its.length c1) (.slice b1 ts.length d1) (.slice none 0 0)
      obtain ⟨q0, k0, q1, k1, q2, k2, q3, k3, q4, k4, q5, k5, q6, k6, q7, k7⟩ := s
      have HZ := hid (N5.set8 (.string nm) (.int .i64 now) (.bool full) (.int .i64 wd) (.int .i64 room) (.slice a1 its.length c1) (.slice b1 ts.length d1) (.slice none 0 0))
      have G8 := grown_set8 w3 w2.heap.size (.string nm) (.int .i64 now) (.bool full) (.int .i64 wd) (.int .i64 room) (.slice a1 its.length c1) (.slice b1 ts.length d1) (.slice none 0 0)
      have BF := below_set8 B3 (b := w2.heap.size) (Nat.le_refl _) (Nat.le_refl _) (.string nm) (.int .i64 now) (.bool full) (.int .i64 wd) (.int .i64 room) (.slice a1 its.length c1) (.slice b1 ts.length d1) (.slice none 0 0)
      have hS5 := HSF.out _ BF
      have HBF := hid BF
      have hz6 : w2.heap.size + 1 ≤ (w2.alloc (.cells fzero 37)).drew.heap.size := by rw [show (w2.alloc (.cells fzero 37)).drew.heap.size = (w2.alloc (.cells fzero 37)).heap.size from rfl, World.size_alloc]; exact Nat.le_refl _
      have HSO := hid (show StoreOwn (set8 w3 w2.heap.size (.string nm) (.int .i64 now) (.bool full) (.int .i64 wd) (.int .i64 room) (.slice a1 its.length c1) (.slice b1 ts.length d1) (.slice none 0 0)) w2.heap.size (.slice a1 its.length c1) (.slice b1 ts.length d1) its ts from ⟨SO3.items.kept G8 (.inr fun e => by have := (oi3.lt _ e).1; omega), SO3.pins.kept G8 (.inr fun e => by have := (op3.lt _ e).1; omega), SO3.apart⟩)
      refine held_one 11 (by kernel_rfl) (op_skip (w' := set8 w3 w2.heap.size (.string nm) (.int .i64 now) (.bool full) (.int .i64 wd) (.int .i64 room) (.slice a1 its.length c1) (.slice b1 ts.length d1) (.slice none 0 0)) rfl rfl (by unfold set8; go_simp) ⟨hS5, wpAnyH_done (by kernel_rfl) ?_ _⟩)
      clear hS0 hSb hS3 hS5 BF SO3 oi3 op3 hap3 hb3 N2 N5 G8 q0 q1 q2 q3 q4 q5 q6 q7 k0 k1 k2 k3 k4 k5 k6 k7
      go_simp
      go_wp2_with fail
      go_meet
      exact ⟨w2.heap.size, _, _, rfl, HZ.out, HSO.out, Nat.le_refl _, HBF.out⟩
  case rest =>
    obtain ⟨w5, hw5⟩ : ∃ x, x = wc := ⟨_, rfl⟩
    subst hw5
    obtain ⟨ob, v1, p1, rfl, hox, hso, hob, hb5⟩ := hcut
    obtain ⟨a1, c1, rfl⟩ := row_any hso.items
    obtain ⟨b1, d1, rfl⟩ := row_any hso.pins
    have HN5 := hid (HN.out.below hb5)
    have HZ5 := hid (HN7.out.below hb5)
    have HB5 := hid (HA.out.trans (hb5.mono HA.out.size))
    have HO5 := hid hox
    have HSO5 := hid hso
    have hol := hox.lt
    have hs5 := hb5.size
    clear hS0 hbd hox hso hb5
    go_wp2
    go_loopw [4] (fun iv wr => ∃ (k : Nat) (q : PV) (v : Value), iv = .int .i64 k ∧ k ≤ qs.length ∧ q.map Prod.fst = (qs.map Prod.fst).take k ∧ Blk wr ob 37 (fcells nm now full wd room (.slice a1 its.length c1) (.slice b1 ts.length d1) v) ∧ PeersOwn wr w5.heap.size v q ∧ But (fun b => b = ob) w5 wr) (fun iv _ => qs.length - (intOf iv).toNat)
    case atStart => exact ⟨0, [], _, rfl, Nat.zero_le _, rfl, HO5.out, PeersOwn.none _ _, But.refl _ _⟩
    case round =>
      obtain ⟨k, q, v, rfl, hk, hqs, hox, hpo, hbt⟩ := hrel
      obtain ⟨av, cv, rfl⟩ := row_any hpo.row
      have hqa : q.length ≤ k := by have := congrArg List.length hqs; simp at this; omega
      have hqb : k ≤ q.length := by have := congrArg List.length hqs; simp at this; omega
      have hsr := hbt.size
      have BW : Below w.heap.size w wr := HB5.out.trans (hbt.below (by have := HB5.out.size; omega) (fun b e => by have e' : b = ob := e; omega))
      have N := hbt.blk HN5.out (fun e => by have e' : w.heap.size = ob := e; omega)
      have HOX := hid hox
      have HPO := hid hpo
      have HBT := hid hbt
      have HBW := hid BW
      have HN := hid N
      have hwr := BW.size
      have n7 : wr.cell? ⟨w.heap.size, 7, none⟩ = some (.slice aq qs.length cq) := N.cell 7
      clear hpo hbt hox BW N
      by_cases hlt : k < qs.length
      · obtain ⟨gq, capq, eq, hgq, hgql⟩ := World.ownsRow.form HF.out.peers.row (by omega)
        obtain ⟨rfl, _, rfl⟩ : aq = some ⟨gq, 0, none⟩ ∧ qs.length = qs.length ∧ cq = capq := Value.slice.inj eq
        clear eq
        have hq5 := cellsQ_at qs k hlt
        have hrw := Below.row HBW.out HF.out.peers.row
        obtain ⟨vn, hvn⟩ : ∃ x, qv qs k = x := ⟨_, rfl⟩
        obtain ⟨p, hp⟩ : ∃ x, qp qs k = x := ⟨_, rfl⟩
        rw [hvn, hp] at hq5
        have g0 : wr.cell? ⟨gq, k * 5, none⟩ = some (.int .i64 p.lies) := (hrw.cellAt (k * 5) (by omega)).trans hq5.c0
        have g1 : wr.cell? ⟨gq, k * 5 + 1, none⟩ = some (.int .i64 p.wait) := (hrw.cellAt (k * 5 + 1) (by omega)).trans hq5.c1
        have g2 : wr.cell? ⟨gq, k * 5 + 2, none⟩ = some (.int .i64 p.last) := (hrw.cellAt (k * 5 + 2) (by omega)).trans hq5.c2
        have g3 : wr.cell? ⟨gq, k * 5 + 3, none⟩ = some (.string p.asked) := (hrw.cellAt (k * 5 + 3) (by omega)).trans hq5.c3
        have g4 : wr.cell? ⟨gq, k * 5 + 4, none⟩ = some vn := (hrw.cellAt (k * 5 + 4) (by omega)).trans hq5.c4
        have HNR : Hid (wr.ownsRow B 9 1 vn p.nots.length (p.nots.map Value.string)) := hid (by rw [← hvn, ← hp]; exact Below.row HBW.out (HF.out.peers.nots k hlt))
        have hnk : p.nots.length ≤ 1048576 := by rw [← hp]; exact HNL.out k hlt
        have HQS : Hid (∀ u, (q ++ [(p, u)]).map Prod.fst = (qs.map Prod.fst).take (k + 1)) := hid fun u => by
          rw [List.map_append, hqs, List.take_succ_eq_append_getElem (by simpa using hlt), ← hp]
          simp [qp, hlt]
        clear hq5 hrw hvn hp hqs
        obtain ⟨pl, pw, pt, pa, pn⟩ := p
        obtain ⟨an, cn, rfl⟩ := row_any HNR.out
        dsimp only at g0 g1 g2 g3 g4 HNR hnk
        have hki : ((k : Nat) : Int) < ((qs.length : Nat) : Int) := by omega
        have hP2 := (HNR.out.alloc (.cells #[.int .i64 pl, .int .i64 pw, .int .i64 pt, .string pa, .slice an pn.length cn] 81)).alloc (.cells #[] 9)
        have hO2 : ((wr.alloc (.cells #[.int .i64 pl, .int .i64 pw, .int .i64 pt, .string pa, .slice an pn.length cn] 81)).alloc (.cells #[] 9)).ownsRow (wr.heap.size + 1) 9 1 (.slice (some ⟨wr.heap.size + 1, 0, none⟩) 0 0) 0 [] := by
          have h := World.ownsRow_made (base := wr.heap.size + 1) (e := 9) (size := 1) (wr.alloc (.cells #[.int .i64 pl, .int .i64 pw, .int .i64 pt, .string pa, .slice an pn.length cn] 81)) #[] 0 (by simp) (by simp [maxLen]) rfl
          rw [World.size_alloc] at h
          exact h
        have X1 := (Blk.new wr 81 #[.int .i64 pl, .int .i64 pw, .int .i64 pt, .string pa, .slice an pn.length cn]).alloc (.cells #[] 9)
        go_upto_region 7 with (at_builtin; refine append_texts rfl _ _ rfl (wr.heap.size + 1) (.slice (some ⟨wr.heap.size + 1, 0, none⟩) 0 0) rfl hO2 _ _ pn (by go_simp) hP2 hnk (by simp) ?_; intro u w3 hu3 hb3; obtain ⟨au, cu, rfl⟩ := row_any hu3; have M3 := X1.belowAt hb3 (by omega); have c4 := M3.cell 4; have f4 := M3.fz 4)
        have M4 : Blk (w3.setCell ⟨wr.heap.size, 4, none⟩ (.slice au pn.length cu)) wr.heap.size 81 #[.int .i64 pl, .int .i64 pw, .int .i64 pt, .string pa, .slice au pn.length cu] := M3.set 4 (.slice au pn.length cu)
        have B3 : Below wr.heap.size wr w3 := (((Below.refl wr.heap.size wr).alloc (Nat.le_refl _) (.cells #[.int .i64 pl, .int .i64 pw, .int .i64 pt, .string pa, .slice an pn.length cn] 81)).alloc (by simp) (.cells #[] 9)).trans (hb3.mono (by omega))
        have B4 := B3.setCell (p := ⟨wr.heap.size, 4, none⟩) (Nat.le_refl _) (.slice au pn.length cu)
        have U4 := hu3.kept (grownBy_setCellAt w3 wr.heap.size 4 (.slice au pn.length cu)) (.inr fun e => by have := (hu3.lt _ e).1; omega)
        obtain ⟨w4, hw4⟩ : ∃ x, x = w3.setCell ⟨wr.heap.size, 4, none⟩ (.slice au pn.length cu) := ⟨_, rfl⟩
        rw [← hw4] at M4 B4 U4
        rw [← hw4]
        clear hw4 hP2 hO2 X1 M3 c4 f4 hu3 hb3 B3
        have PO4 := HPO.out.below B4
        have O4 := HOX.out.below B4
        have hs4 := B4.size
        have l1 : w4.cell? ⟨ob, 7, none⟩ = some (.slice av q.length cv) := O4.cell 7
        have l0 : ∀ o, (w4.alloc o).cell? ⟨ob, 7, none⟩ = some (.slice av q.length cv) := fun o => (O4.alloc o).cell 7
        have m0 : w4.cell? ⟨wr.heap.size, 0, none⟩ = some (.int .i64 pl) := M4.cell 0
        have m1 : w4.cell? ⟨wr.heap.size, 1, none⟩ = some (.int .i64 pw) := M4.cell 1
        have m2 : w4.cell? ⟨wr.heap.size, 2, none⟩ = some (.int .i64 pt) := M4.cell 2
        have m3 : w4.cell? ⟨wr.heap.size, 3, none⟩ = some (.string pa) := M4.cell 3
        have m4 : w4.cell? ⟨wr.heap.size, 4, none⟩ = some (.slice au pn.length cu) := M4.cell 4
        have HB4 := hid B4
        have HU4 := hid U4
        have HPO4 := hid PO4
        have HO4 := hid O4
        have hrow4 := PO4.row
        clear M4 B4 U4 PO4 O4
        go_wp2_with (at_builtin; refine wpList_append_own _ rfl _ _ 35 rfl w5.heap.size 81 i0 (.agg #[.int .i64 0, .int .i64 0, .int .i64 0, .string ⟨#[]⟩, .slice none 0 0]) 5 64 Tryz.underlying35 hi0 hz0 hz1 hz2 rfl (by decide) (.slice av q.length cv) q.length (cellsQ q) rfl (hrow4.alloc _) ⟨_, 0, none⟩ 1 1 [.int .i64 pl, .int .i64 pw, .int .i64 pt, .string pa, .slice au pn.length cu] rfl rfl (five_new _ _ _ _ _ _ _) (by simp [Value.oneCell']) (by unfold maxLen; omega) (by omega) (by simp; omega) ?_; intro v6 w6 hown6 hgrow6 _; obtain ⟨a6, c6, rfl⟩ := row_any hown6; have hb6 := (HO4.out.alloc (.cells #[.int .i64 pl, .int .i64 pw, .int .i64 pt, .string pa, .slice au pn.length cu] 81)).kept hgrow6 (fun e => by have := (hrow4.lt ob e.symm).1; omega); have l6 : w6.cell? ⟨ob, 7, none⟩ = some (.slice av q.length cv) := hb6.cell 7; have f6 := hb6.fz 7)
        have D4 : Below w4.heap.size w4 (w4.alloc (.cells #[.int .i64 pl, .int .i64 pw, .int .i64 pt, .string pa, .slice au pn.length cu] 81)) := (Below.refl _ _).alloc (Nat.le_refl _) _
        have PO6 := PeersOwn.snoc (p := ⟨pl, pw, pt, pa, pn⟩) (HPO4.out.below D4) hgrow6 hown6 (ownsRow_base2 (HU4.out.alloc (.cells #[.int .i64 pl, .int .i64 pw, .int .i64 pt, .string pa, .slice au pn.length cu] 81)) (by omega)) (fun i hi g e e2 => by have h1 := ((HPO.out.nots i hi).lt g e).2; have h2 := (HU4.out.lt g e2).1; omega)
        have PO7 := PO6.kept (grownBy_setCellAt w6 ob 7 (.slice a6 (q.length + 1) c6)) (by omega)
        have BT7 := ((((HBT.out.trans (But.of_below HB4.out) (fun _ _ h => h)).trans (But.of_below D4) (fun _ _ h => h)).grownR hgrow6 (fun r e => (hrow4.lt r e).1)).trans (But.of_grown (P := fun b => b = ob) (grownBy_setCellAt w6 ob 7 (.slice a6 (q.length + 1) c6)) rfl) (fun _ _ h => h))
        exact ⟨⟨k + 1, q ++ [(⟨pl, pw, pt, pa, pn⟩, .slice au pn.length cu)], _, by go_num, by omega, HQS.out _, hb6.set 7 _, PO7, BT7⟩, by simp [intOf]; omega⟩
      · have hki : ¬ ((k : Nat) : Int) < ((qs.length : Nat) : Int) := by omega
        have hqe : q.map Prod.fst = qs.map Prod.fst := by rw [hqs, show k = (qs.map Prod.fst).length by simp; omega, List.take_length]
        have HQE := hid hqe
        have c0' : wr.cell? ⟨ob, 0, none⟩ = some (.string nm) := HOX.out.cell 0
        have c1' : wr.cell? ⟨ob, 1, none⟩ = some (.int .i64 now) := HOX.out.cell 1
        have c2' : wr.cell? ⟨ob, 2, none⟩ = some (.bool full) := HOX.out.cell 2
        have c3' : wr.cell? ⟨ob, 3, none⟩ = some (.int .i64 wd) := HOX.out.cell 3
        have c4' : wr.cell? ⟨ob, 4, none⟩ = some (.int .i64 room) := HOX.out.cell 4
        have c5' : wr.cell? ⟨ob, 5, none⟩ = some (.slice a1 its.length c1) := HOX.out.cell 5
        have c6' : wr.cell? ⟨ob, 6, none⟩ = some (.slice b1 ts.length d1) := HOX.out.cell 6
        have c7' : wr.cell? ⟨ob, 7, none⟩ = some (.slice av q.length cv) := HOX.out.cell 7
        have NR := HBT.out.blk HZ5.out (fun e => by have e' : w.heap.size + 1 = ob := e; omega)
        have s := NR.store8 (.string nm) (.int .i64 now) (.bool full) (.int .i64 wd) (.int .i64 room) (.slice a1 its.length c1) (.slice b1 ts.length d1) (.slice av q.length cv)
        obtain ⟨q0, k0, q1, k1, q2, k2, q3, k3, q4, k4, q5, k5, q6, k6, q7, k7⟩ := s
        have HZ := hid (NR.set8 (.string nm) (.int .i64 now) (.bool full) (.int .i64 wd) (.int .i64 room) (.slice a1 its.length c1) (.slice b1 ts.length d1) (.slice av q.length cv))
        have GG := grown_set8 wr (w.heap.size + 1) (.string nm) (.int .i64 now) (.bool full) (.int .i64 wd) (.int .i64 room) (.slice a1 its.length c1) (.slice b1 ts.length d1) (.slice av q.length cv)
        have BB := hid (below_set8 HBW.out (b := w.heap.size + 1) (by omega) (Nat.le_refl _) (.string nm) (.int .i64 now) (.bool full) (.int .i64 wd) (.int .i64 room) (.slice a1 its.length c1) (.slice b1 ts.length d1) (.slice av q.length cv))
        have SR : StoreOwn wr w2.heap.size (.slice a1 its.length c1) (.slice b1 ts.length d1) its ts := ⟨HBT.out.row HSO5.out.items (fun g e h => row_off_blk HSO5.out.items HO5.out (by decide) (e.trans (congrArg some h))), HBT.out.row HSO5.out.pins (fun g e h => row_off_blk HSO5.out.pins HO5.out (by decide) (e.trans (congrArg some h))), HSO5.out.apart⟩
        have FO := hid (show FetchOwn (set8 wr (w.heap.size + 1) (.string nm) (.int .i64 now) (.bool full) (.int .i64 wd) (.int .i64 room) (.slice a1 its.length c1) (.slice b1 ts.length d1) (.slice av q.length cv)) (w.heap.size + 2) (.slice a1 its.length c1) (.slice b1 ts.length d1) (.slice av q.length cv) its ts q from
          ⟨(SR.kept GG (by omega)).base (by omega), (HPO.out.kept GG (by omega)).base (by omega), fun g e h => by have h1 := (HSO5.out.items.lt g e).2; have h2 := (HPO.out.lt g h).1; omega, fun g e h => by have h1 := (HSO5.out.pins.lt g e).2; have h2 := (HPO.out.lt g h).1; omega⟩)
        clear NR GG SR hqs hqe
        go_wp2
        rw [set8_def]
        refine bodyPost_ret (v := fval nm now full wd room (.slice a1 its.length c1) (.slice b1 ts.length d1) (.slice av q.length cv)) (by simp [results, Tryz.results20, go_sem, HZ.out.cell]) rfl (by first | exact ⟨_, _, _, q, rfl, HQE.out, FO.out, BB.out⟩ | exact ⟨_, _, _, rfl, q, HQE.out, FO.out, BB.out⟩)
end Go.Proofs.YtlnkhbnbcmllaaaGreat
