import Derived.Test.YtbihndholamdfaaGreatDoorShelfStore
import Derived.Laws.AppendOwnNone
import Derived.Test.YtbihndholamdfaaGreatDoorShort
import Derived.Shelf.SlIter.Nil
import Derived.Shelf.SortM.Plain
import Derived.Shelf.SortM.SortNone
/- spec.l4Copy: a store in rows of its own. -/
namespace Go.Proofs.YtbihndholamdfaaGreatDoor
open Go.RowKit
theorem Blk.belowAt {W W' : World} {b B : Nat} {T : TypeId} {cs : Array Value} (h : Blk W b T cs) (hb : Below B W W') (hlt : b < B) : Blk W' b T cs := (hb.block b hlt).trans h
theorem cellsI_one (its : Itms) : ∀ u ∈ cellsI its, u.oneCell' = true := by
 intro u hu
 unfold cellsI at hu
 rw [List.mem_flatMap] at hu
 obtain ⟨p, _, hp⟩ := hu
 simp only [List.mem_cons, List.not_mem_nil, or_false] at hp
 rcases hp with rfl | rfl <;> rfl
/-- append of a row of texts onto an own row of none. -/
theorem append_texts {ops : Array Oper} {rest : List Oper} {o : Oper} {a : Act} {w : World} {Q : Exit → Act → World → Prop} (hgd : o.guard = none) (s x : Operand)
  (ho : o.op = .call { callee := .builtin .append, args := #[s, x], argTypes := #[23, 23] }) (B : Nat) (v : Value) (hs : a.eval s = v) (hown : w.ownsRow B 9 1 v 0 [])
  (b2 : Nat) (v2 : Value) (ts : List ByteArray) (hx : a.eval x = v2) (hrow : w.ownsRow b2 9 1 v2 ts.length (ts.map Value.string)) (hlen : ts.length ≤ 1048576) (hB : B ≤ w.heap.size)
  (h : ∀ v' w', w'.ownsRow B 9 1 v' ts.length (ts.map Value.string) → Below B w w' → wpList Tryz.prog ops Q rest (a.put o.dst v') w') : wpList Tryz.prog ops Q (o :: rest) a w := by
 obtain ⟨i0, hi, hz0, hz1, hz2⟩ := info_parts Tryz.info9
 have hrow0 := hrow
 rcases hrow with ⟨hl, ⟨rfl, h0⟩ | ⟨g, cap, cur, rfl, hb, hg, hn, hm, hsz, hxs⟩⟩
 ·have : ts = [] := List.eq_nil_of_length_eq_zero h0
  subst this
  exact wpList_append_own_none hgd s x 23 ho B 9 i0 1 Tryz.underlying23 hi v 0 [] hs hown hx (h v w hown (Below.refl _ _))
 ·refine wpList_append_own w hgd s x 23 ho B 9 i0 (.string ⟨#[]⟩) 1 16 Tryz.underlying23 hi hz0 hz1 hz2 rfl (by decide) v 0 [] hs hown ⟨g, 0, none⟩ ts.length cap (ts.map Value.string) hx hl (fun j u hj => ?_) (by simp [Value.oneCell']) (by unfold maxLen; omega) (by omega) hB ?_
  ·have hjl := (List.getElem?_eq_some_iff.1 hj).1
   have hc := hrow0.cellAt j (by simp at hjl; omega)
   have e : (⟨g, 0, none⟩ : Addr).add j = ⟨g, j, none⟩ := by simp [Addr.add]; intro h; exact h.symm
   rw [e, hc, hj]
  ·intro v' w' ho' hg' _
   refine h v' w' ?_ ((Below.refl B w).grown hg' hB (fun g e => (hown.lt g e).1))
   rw [Nat.zero_add, List.nil_append] at ho'
   exact ho'
theorem row_any {w : World} {base n size : Nat} {e : TypeId} {v : Value} {xs : List Value} (h : w.ownsRow base e size v n xs) : ∃ a cap, v = .slice a n cap := by
 rcases h with ⟨_, ⟨rfl, rfl⟩ | ⟨g, cap, cur, rfl, hb, _⟩⟩
 ·exact ⟨none, 0, rfl⟩
 ·exact ⟨_, cap, rfl⟩
end Go.Proofs.YtbihndholamdfaaGreatDoor
/- spec.l4Copy of a store in rows that have grown. -/
namespace Go.Proofs.YtbihndholamdfaaGreatDoor
open Go.RowKit
theorem rowI_below {w w' : World} {B : Nat} {v : Value} {its : Itms} (h : w.ownsRow B 122 2 v its.length (cellsI its)) (hb : Below w.heap.size w w') : w'.ownsRow B 122 2 v its.length (cellsI its) := h.kept (grown_of_below hb) (by cases hv : v.ownBlock <;> simp)
/-- append of items onto an own row of none. -/
theorem append_itemsR {ops : Array Oper} {rest : List Oper} {o : Oper} {a : Act} {w : World} {Q : Exit → Act → World → Prop} (hgd : o.guard = none) (s x : Operand)
  (ho : o.op = .call { callee := .builtin .append, args := #[s, x], argTypes := #[30, 30] }) (B : Nat) (v : Value) (hs : a.eval s = v) (hown : w.ownsRow B 122 2 v 0 [])
  (b2 : Nat) (v2 : Value) (its : Itms) (hx : a.eval x = v2) (hrow : w.ownsRow b2 122 2 v2 its.length (cellsI its)) (hlen : its.length ≤ 1048576) (hB : B ≤ w.heap.size)
  (h : ∀ v' w', w'.ownsRow B 122 2 v' its.length (cellsI its) → Below B w w' → wpList Tryz.prog ops Q rest (a.put o.dst v') w') : wpList Tryz.prog ops Q (o :: rest) a w := by
 obtain ⟨i0, hi, hz0, hz1, hz2⟩ := info_parts Tryz.infoItem
 have hrow0 := hrow
 rcases hrow with ⟨hl, ⟨rfl, h0⟩ | ⟨g, cap, cur, rfl, hb, hg, hn, hm, hsz, hxs⟩⟩
 ·have : its = [] := List.eq_nil_of_length_eq_zero h0
  subst this
  exact wpList_append_own_none hgd s x 30 ho B 122 i0 2 Tryz.underlying30 hi v 0 [] hs hown hx (h v w hown (Below.refl _ _))
 ·refine wpList_append_own w hgd s x 30 ho B 122 i0 (.agg #[.string ⟨#[]⟩, .int .i64 0]) 2 24 Tryz.underlying30 hi hz0 hz1 hz2 rfl (by decide) v 0 [] hs hown ⟨g, 0, none⟩ its.length cap (cellsI its) hx (cellsI_len its) (fun j u hj => ?_) (cellsI_one its) (by unfold maxLen; omega) (by omega) hB ?_
  ·have hjl := (List.getElem?_eq_some_iff.1 hj).1
   have hc := hrow0.cellAt j (by rw [cellsI_len] at hjl; omega)
   have e : (⟨g, 0, none⟩ : Addr).add j = ⟨g, j, none⟩ := by simp [Addr.add]; intro h; exact h.symm
   rw [e, hc, hj]
  ·intro v' w' ho' hg' _
   refine h v' w' ?_ ((Below.refl B w).grown hg' hB (fun g e => (hown.lt g e).1))
   rw [Nat.zero_add, List.nil_append] at ho'
   exact ho'
set_option maxRecDepth 100000 in
set_option maxHeartbeats 1000000 in
theorem l4Copy_row (wd room : Int) (vi vp : Value) (its : Itms) (ts : List ByteArray) (w : World) (b1 b2 : Nat) (hi : w.ownsRow b1 122 2 vi its.length (cellsI its)) (hp : w.ownsRow b2 9 1 vp ts.length (ts.map Value.string)) (hl : its.length ≤ 1048576) (hlp : ts.length ≤ 1048576) :
  Calls Tryz.prog 50 #[.agg #[.int .i64 wd, .int .i64 room, vi, vp]] w fun e w' => ∃ vi' vp', e = .returned (.agg #[.int .i64 wd, .int .i64 room, vi', vp']) ∧ w'.ownsRow (w.heap.size + 1) 122 2 vi' its.length (cellsI its) ∧ w'.ownsRow (w.heap.size + 1) 9 1 vp' ts.length (ts.map Value.string) ∧ (∀ g, vi'.ownBlock = some g → vp'.ownBlock ≠ some g) ∧ Below w.heap.size w w' := by
 obtain ⟨ag, cg, rfl⟩ := row_any hi
 obtain ⟨ap, cp, rfl, _⟩ := row_form hp
 have hA0 := ((Below.refl w.heap.size w).alloc (Nat.le_refl _) (.cells #[.int .i64 wd, .int .i64 room, .slice ag its.length cg, .slice ap ts.length cp] 32)).alloc (by simp) (.cells #[.int .i64 0, .int .i64 0, .slice none 0 0, .slice none 0 0] 32)
 have hA := hA0.alloc (by simp; omega) (.cells #[] 122)
 have hN1 := ((Blk.new w 32 #[.int .i64 wd, .int .i64 room, .slice ag its.length cg, .slice ap ts.length cp]).alloc (.cells #[.int .i64 0, .int .i64 0, .slice none 0 0, .slice none 0 0] 32)).alloc (.cells #[] 122)
 have hN2 := (Blk.new (w.alloc (.cells #[.int .i64 wd, .int .i64 room, .slice ag its.length cg, .slice ap ts.length cp] 32)) 32 #[.int .i64 0, .int .i64 0, .slice none 0 0, .slice none 0 0]).alloc (.cells #[] 122)
 rw [World.size_alloc] at hN2
 have hO : (((w.alloc (.cells #[.int .i64 wd, .int .i64 room, .slice ag its.length cg, .slice ap ts.length cp] 32)).alloc (.cells #[.int .i64 0, .int .i64 0, .slice none 0 0, .slice none 0 0] 32)).alloc (.cells #[] 122)).ownsRow (w.heap.size + 2) 122 2 (.slice (some ⟨w.heap.size + 1 + 1, 0, none⟩) 0 0) 0 [] := by
  have := World.ownsRow_made (base := w.heap.size + 2) (e := 122) (size := 2) ((w.alloc (.cells #[.int .i64 wd, .int .i64 room, .slice ag its.length cg, .slice ap ts.length cp] 32)).alloc (.cells #[.int .i64 0, .int .i64 0, .slice none 0 0, .slice none 0 0] 32)) #[] 0 (by simp) (by simp [maxLen]) rfl
  rw [World.size_alloc, World.size_alloc] at this
  exact this
 have hI := rowI_below hi hA
 have HP := hid (Below.row hA hp)
 have HN1 := hid hN1
 have HN2 := hid hN2
 have HA := hid hA
 have HP0 := hid hp
 clear hi hp hA hA0 hN1 hN2
 go_enter Tryz.func50, Tryz.ntmps50
 go_upto_region 2 with (at_builtin; refine append_itemsR rfl _ _ rfl (w.heap.size + 2) _ rfl hO b1 _ its (by go_simp) hI hl (by simp) ?_; intro v1 w1 ho1 hb1; obtain ⟨a1, c1, rfl⟩ := row_any ho1; have M1 := HN1.out.belowAt hb1 (by omega); have c2 := M1.cell 2; have f2 := M1.fz 2)
 have M1s := M1.set 2 (.slice a1 its.length c1)
 have hU := grownBy_setCellAt w1 w.heap.size 2 (.slice a1 its.length c1)
 have hBW := HA.out.trans (hb1.mono (by omega))
 have hBU := hBW.setCell (p := ⟨w.heap.size, 2, none⟩) (Nat.le_refl _) (.slice a1 its.length c1)
 have N2 := (HN2.out.belowAt hb1 (by omega)).kept hU (fun e => by simp at e)
 have c3 : ∀ o, ((w1.setCell ⟨w.heap.size, 2, none⟩ (.slice a1 its.length c1)).alloc o).cell? ⟨w.heap.size, 3, none⟩ = some (.slice ap ts.length cp) := fun o => (M1s.alloc o).cell 3
 have hO2 : ((w1.setCell ⟨w.heap.size, 2, none⟩ (.slice a1 its.length c1)).alloc (.cells #[] 9)).ownsRow w1.heap.size 9 1 (.slice (some ⟨w1.heap.size, 0, none⟩) 0 0) 0 [] := by simpa using World.ownsRow_made (base := (w1.setCell ⟨w.heap.size, 2, none⟩ (.slice a1 its.length c1)).heap.size) (e := 9) (size := 1) (w1.setCell ⟨w.heap.size, 2, none⟩ (.slice a1 its.length c1)) #[] 0 (Nat.le_refl _) (by simp [maxLen]) rfl
 have hP2 := Below.row (hBU.alloc hBU.size (.cells #[] 9)) HP0.out
 have hz2 : w.heap.size + 1 < w1.heap.size := by have := N2.lt; simpa using this
 have HO1 := hid (ho1.kept hU (.inr fun e => by have := (ho1.lt _ e).1; omega))
 have HL1 := hid fun g' (e : (Value.slice a1 its.length c1).ownBlock = some g') => ho1.lt g' e
 clear hI hO c2 f2 M1 hU ho1 hb1
 go_upto_region 3 with (at_builtin; refine append_texts rfl _ _ rfl w1.heap.size (.slice (some ⟨w1.heap.size, 0, none⟩) 0 0) rfl hO2 b2 _ ts (by go_simp) hP2 hlp (by simp) ?_; intro v2 w2 ho2 hb2; obtain ⟨a2, c2, rfl⟩ := row_any ho2; have M2 := (M1s.alloc (.cells #[] 9)).belowAt hb2 (by omega); have d3 := M2.cell 3; have g3 := M2.fz 3)
 have M2s := M2.set 3 (.slice a2 ts.length c2)
 have hV := grownBy_setCellAt w2 w.heap.size 3 (.slice a2 ts.length c2)
 have r0 : (w2.setCell ⟨w.heap.size, 3, none⟩ (.slice a2 ts.length c2)).cell? ⟨w.heap.size, 0, none⟩ = some (.int .i64 wd) := M2s.cell 0
 have r1 : (w2.setCell ⟨w.heap.size, 3, none⟩ (.slice a2 ts.length c2)).cell? ⟨w.heap.size, 1, none⟩ = some (.int .i64 room) := M2s.cell 1
 have r2 : (w2.setCell ⟨w.heap.size, 3, none⟩ (.slice a2 ts.length c2)).cell? ⟨w.heap.size, 2, none⟩ = some (.slice a1 its.length c1) := M2s.cell 2
 have r3 : (w2.setCell ⟨w.heap.size, 3, none⟩ (.slice a2 ts.length c2)).cell? ⟨w.heap.size, 3, none⟩ = some (.slice a2 ts.length c2) := M2s.cell 3
 have N3 := ((N2.alloc (.cells #[] 9)).belowAt hb2 (by omega)).kept hV (fun e => by simp at e)
 have s := N3.store4 (.int .i64 wd) (.int .i64 room) (.slice a1 its.length c1) (.slice a2 ts.length c2)
 have s0 := s.a0; have s1 := s.a1; have s2 := s.a2; have s3 := s.a3
 have k0 := s.f0; have k1 := s.f1; have k2 := s.f2; have k3 := s.f3
 have Z := hid s.z
 have hlw : ∀ g', (Value.slice a1 its.length c1).ownBlock = some g' → g' < w1.heap.size := fun g' e => (HL1.out g' e).2
 have h1S : (Value.slice a1 its.length c1).ownBlock ≠ some w.heap.size := fun e => by have := (HL1.out _ e).1; omega
 have h1T : (Value.slice a1 its.length c1).ownBlock ≠ some (w.heap.size + 1) := fun e => by have := (HL1.out _ e).1; omega
 have O1 : w2.ownsRow (w.heap.size + 2) 122 2 (.slice a1 its.length c1) its.length (cellsI its) := by
  have h := HO1.out.alloc (.cells #[] 9)
  rcases h with ⟨q, r | ⟨g', cap, cur, e1, q1, q2, q3⟩⟩
  ·exact ⟨q, .inl r⟩
  ·refine ⟨q, .inr ⟨g', cap, cur, e1, q1, (hb2.block g' (hlw g' (by rw [e1]; rfl))).trans q2, q3⟩⟩
 have l2 : ∀ g', (Value.slice a2 ts.length c2).ownBlock = some g' → w1.heap.size ≤ g' := fun g' e => (ho2.lt g' e).1
 have h2S : (Value.slice a2 ts.length c2).ownBlock ≠ some w.heap.size := fun e => by have := l2 _ e; omega
 have h2T : (Value.slice a2 ts.length c2).ownBlock ≠ some (w.heap.size + 1) := fun e => by have := l2 _ e; omega
 have GG := fun (x : World) (i : Nat) (y : Value) => grownBy_setCellAt x (w.heap.size + 1) i y
 have OI := hid (((((O1.kept hV (.inr h1S)).kept (GG _ 0 (.int .i64 wd)) (.inr h1T)).kept (GG _ 1 (.int .i64 room)) (.inr h1T)).kept (GG _ 2 (.slice a1 its.length c1)) (.inr h1T)).kept (GG _ 3 (.slice a2 ts.length c2)) (.inr h1T))
 have OP := hid (((((ho2.kept hV (.inr h2S)).kept (GG _ 0 (.int .i64 wd)) (.inr h2T)).kept (GG _ 1 (.int .i64 room)) (.inr h2T)).kept (GG _ 2 (.slice a1 its.length c1)) (.inr h2T)).kept (GG _ 3 (.slice a2 ts.length c2)) (.inr h2T))
 have HAP : Hid (∀ g', (Value.slice a1 its.length c1).ownBlock = some g' → (Value.slice a2 ts.length c2).ownBlock ≠ some g') := fun g' e e2 => by have h1 := hlw g' e; have h2 := l2 g' e2; omega
 have BB := hid ((((((hBU.alloc hBU.size (.cells #[] 9)).trans (hb2.mono (by omega))).setCell (p := ⟨w.heap.size, 3, none⟩) (Nat.le_refl _) (.slice a2 ts.length c2)).setCell (p := ⟨w.heap.size + 1, 0, none⟩) (by simp) (.int .i64 wd)).setCell (p := ⟨w.heap.size + 1, 1, none⟩) (by simp) (.int .i64 room)).setCell (p := ⟨w.heap.size + 1, 2, none⟩) (by simp) (.slice a1 its.length c1) |>.setCell (p := ⟨w.heap.size + 1, 3, none⟩) (by simp) (.slice a2 ts.length c2))
 clear s N2 N3 M1s M2 M2s c3 hO2 hP2 hb2 ho2 O1 GG hV hBW hBU d3 g3
 go_wp2
 refine bodyPost_ret (v := .agg #[.int .i64 wd, .int .i64 room, .slice a1 its.length c1, .slice a2 ts.length c2]) (by simp [results, Tryz.results50, go_sem, Z.out.cell]) rfl ⟨_, _, rfl, ownsRow_base2 OI.out (by omega), ownsRow_base2 OP.out (by omega), HAP.out, BB.out⟩
end Go.Proofs.YtbihndholamdfaaGreatDoor
/- spec.Get: looked for. -/
namespace Go.Proofs.YtbihndholamdfaaGreatDoor
open Go.RowKit
/-- A store in rows of its own. -/
structure StoreOwn (w : World) (B : Nat) (vi vp : Value) (its : Itms) (ts : List ByteArray) : Prop where
 items : w.ownsRow B 122 2 vi its.length (cellsI its)
 pins : w.ownsRow B 9 1 vp ts.length (ts.map Value.string)
 apart : ∀ g, vi.ownBlock = some g → vp.ownBlock ≠ some g
theorem StoreOwn.none (w : World) (B : Nat) : StoreOwn w B (.slice .none 0 0) (.slice .none 0 0) [] [] := ⟨World.ownsRow_nil _ _ _ _, World.ownsRow_nil _ _ _ _, fun g e => by simp [Value.ownBlock] at e⟩
theorem StoreOwn.below {w w' : World} {B : Nat} {vi vp : Value} {its : Itms} {ts : List ByteArray} (h : StoreOwn w B vi vp its ts) (hb : Below w.heap.size w w') : StoreOwn w' B vi vp its ts :=
 ⟨h.items.kept (grown_of_below hb) (by cases hv : vi.ownBlock <;> simp), Below.row hb h.pins, h.apart⟩
theorem StoreOwn.base {w : World} {B B' : Nat} {vi vp : Value} {its : Itms} {ts : List ByteArray} (h : StoreOwn w B vi vp its ts) (hb : B' ≤ B) : StoreOwn w B' vi vp its ts := ⟨ownsRow_base2 h.items hb, ownsRow_base2 h.pins hb, h.apart⟩
theorem StoreOwn.kept {w w' : World} {B k : Nat} {vi vp : Value} {its : Itms} {ts : List ByteArray} (h : StoreOwn w B vi vp its ts) (hg : w.grownBy w' (some k)) (hk : k < B) : StoreOwn w' B vi vp its ts :=
 ⟨h.items.kept hg (.inr fun e => by have := (h.items.lt _ e).1; omega), h.pins.kept hg (.inr fun e => by have := (h.pins.lt _ e).1; omega), h.apart⟩
theorem StoreOwn.rdi {w : World} {B : Nat} {vi vp : Value} {its : Itms} {ts : List ByteArray} (h : StoreOwn w B vi vp its ts) : RdI w vi its := by
 have hr := h.items
 rcases h.items with ⟨_, ⟨rfl, h0⟩ | ⟨g, cap, cur, rfl, hb, hg, _⟩⟩
 ·have : its = [] := List.eq_nil_of_length_eq_zero h0
  subst this
  exact ⟨_, 0, rfl, fun i hi => absurd hi (by simp)⟩
 ·refine ⟨_, cap, rfl, fun i hi => ⟨g, 0, rfl, (Array.getElem?_eq_some_iff.1 hg).1, ?_, ?_⟩⟩
  ·rw [Nat.zero_add, hr.cellAt _ (by omega)]; exact (cellsI_at its i hi).1
  ·rw [Nat.zero_add, hr.cellAt _ (by omega)]; exact (cellsI_at its i hi).2
/-- What Get answers. -/
def GetOk (wd room : Int) (its : Itms) (ts : List ByteArray) (s : ByteArray) (now : Int) : Prop := ValidSt wd room its ts ∧ (0 ≤ now ∧ now ≤ 1000000) ∧ ∃ i, i < its.length ∧ sumX wd (itx its i) = s
def GetR (wd room : Int) (its : Itms) (ts : List ByteArray) (s : ByteArray) (now : Int) (x : ByteArray) (wd' room' : Int) (its' : Itms) (ts' : List ByteArray) (b : Bool) : Prop :=
 (x = ⟨#[]⟩ ∧ wd' = 0 ∧ room' = 0 ∧ its' = [] ∧ ts' = [] ∧ b = false ∧ ¬ GetOk wd room its ts s now) ∨
 (b = true ∧ wd' = wd ∧ room' = room ∧ ts' = ts ∧ GetOk wd room its ts s now ∧ ∃ i, i < its.length ∧ sumX wd (itx its i) = s ∧ x = itx its i ∧ its' = its.set i (itx its i, now))
theorem cellsI_set (its : Itms) (i : Nat) (now : Int) (h : i < its.length) : (cellsI its).set (i * 2 + 1) (.int .i64 now) = cellsI (its.set i (itx its i, now)) := by
 induction its generalizing i with
 | nil => simp at h
 | cons p r ih =>
  cases i with
  | zero => simp [cellsI, itx]
  | succ i =>
   have := ih i (by simpa using h)
   have e : (i + 1) * 2 + 1 = i * 2 + 1 + 1 + 1 := by omega
   rw [e]
   simpa [cellsI, itx] using this
end Go.Proofs.YtbihndholamdfaaGreatDoor
/- slices.Sorted of maps.Keys of the map of items, laid at this program. -/
namespace Go.Proofs.YtbihndholamdfaaGreatDoor
open Go.RowKit Go.Maps Go.Sort Go.Shelf
def kRen7 : Go.Shelf.Ren := ⟨fun | 7 => 98 | 10 => 120 | n => n, fun | 23 => 100 | 26 => 9 | 3 => 122 | 28 => 146 | 0 => 0 | 27 => 145 | 33 => 137 | 4 => 4 | n => n, fun | n => n⟩
theorem kLays7 : SlLaysZ.n7 Tryz.prog kRen7 where
 mixed := by kernel_rfl
 f7 := ⟨Tryz.f98.name, by kernel_rfl, Tryz.func98.trans (congrArg some (by kernel_rfl))⟩
 f10 := ⟨Tryz.f120.name, by kernel_rfl, Tryz.func120.trans (congrArg some (by kernel_rfl))⟩
 t0 := by kernel_rfl
 a0 := fun _ => by kernel_rfl
 z0 := fun _ => by kernel_rfl
 v0 := fun _ => by kernel_rfl
 t4 := by kernel_rfl
 a4 := fun _ => by kernel_rfl
 z4 := fun _ => by kernel_rfl
 v4 := fun _ => by kernel_rfl
 t23 := by kernel_rfl
 a23 := fun _ => by kernel_rfl
 z23 := fun _ => by kernel_rfl
 v23 := fun _ => by kernel_rfl
 t26 := by kernel_rfl
 a26 := fun _ => by kernel_rfl
 z26 := fun _ => by kernel_rfl
 v26 := fun _ => by kernel_rfl
 t27 := by kernel_rfl
 a27 := fun _ => by kernel_rfl
 z27 := fun _ => by kernel_rfl
 v27 := fun _ => by kernel_rfl
 t28 := by kernel_rfl
 a28 := fun _ => by kernel_rfl
 z28 := fun _ => by kernel_rfl
 v28 := fun _ => by kernel_rfl
 t33 := by kernel_rfl
 a33 := fun _ => by kernel_rfl
 z33 := fun _ => by kernel_rfl
 v33 := fun _ => by kernel_rfl
def kRen6 : Go.Shelf.Ren := ⟨fun | 6 => 97 | 8 => 118 | 9 => 119 | 11 => 133 | 13 => 131 | 12 => 134 | 23 => 153 | 24 => 154 | 14 => 155 | 15 => 156 | 16 => 157 | 17 => 158 | 18 => 159 | 19 => 160 | 20 => 121 | 21 => 161 | 22 => 162 | 25 => 181 | 26 => 177 | 27 => 178 | 28 => 182 | 29 => 183 | 30 => 135 | 31 => 191 | n => n, fun | 26 => 9 | 28 => 146 | 24 => 23 | 0 => 0 | 3 => 3 | 37 => 167 | 48 => 203 | 50 => 128 | 4 => 4 | 40 => 197 | 39 => 196 | 45 => 151 | 5 => 5 | 9 => 9 | 51 => 245 | 55 => 249 | 57 => 271 | 58 => 272 | 33 => 137 | n => n, fun | n => n⟩
theorem kLays6 : SlLaysZ.n6 Tryz.prog kRen6 where
 mixed := by kernel_rfl
 f6 := ⟨Tryz.f97.name, by kernel_rfl, Tryz.func97.trans (congrArg some (by kernel_rfl))⟩
 f8 := ⟨Tryz.f118.name, by kernel_rfl, Tryz.func118.trans (congrArg some (by kernel_rfl))⟩
 f11 := ⟨Tryz.f133.name, by kernel_rfl, Tryz.func133.trans (congrArg some (by kernel_rfl))⟩
 t0 := by kernel_rfl
 a0 := fun _ => by kernel_rfl
 z0 := fun _ => by kernel_rfl
 v0 := fun _ => by kernel_rfl
 t24 := by kernel_rfl
 a24 := fun _ => by kernel_rfl
 z24 := fun _ => by kernel_rfl
 v24 := fun _ => by kernel_rfl
 t26 := by kernel_rfl
 a26 := fun _ => by kernel_rfl
 z26 := fun _ => by kernel_rfl
 v26 := fun _ => by kernel_rfl
 t28 := by kernel_rfl
 a28 := fun _ => by kernel_rfl
 z28 := fun _ => by kernel_rfl
 v28 := fun _ => by kernel_rfl
 i26 := by kernel_rfl
def kRenM : Go.Shelf.Ren := ⟨fun | 6 => 119 | 8 => 131 | 9 => 134 | 19 => 153 | 20 => 154 | 21 => 155 | 22 => 156 | 23 => 157 | 24 => 158 | 25 => 159 | 26 => 160 | 27 => 121 | 28 => 161 | 29 => 162 | 36 => 181 | 31 => 177 | 32 => 178 | 37 => 182 | 38 => 183 | 39 => 135 | 41 => 191 | n => n, fun | 27 => 23 | 29 => 9 | 3 => 3 | 32 => 167 | 26 => 23 | 0 => 0 | 44 => 203 | 46 => 128 | 4 => 4 | 36 => 197 | 35 => 196 | 41 => 151 | 5 => 5 | 9 => 9 | 53 => 245 | 57 => 249 | 63 => 271 | 64 => 272 | n => n, fun | n => n⟩
theorem kLaysM : SlLaysM.n6 Tryz.prog kRenM where
 mixed := by kernel_rfl
 f6 := ⟨Tryz.f119.name, by kernel_rfl, Tryz.func119.trans (congrArg some (by kernel_rfl))⟩
 f8 := by kernel_rfl
 f9 := ⟨Tryz.f134.name, by kernel_rfl, Tryz.func134.trans (congrArg some (by kernel_rfl))⟩
 f19 := by kernel_rfl
 f20 := by kernel_rfl
 f21 := ⟨Tryz.f155.name, by kernel_rfl, Tryz.func155.trans (congrArg some (by kernel_rfl))⟩
 f22 := ⟨Tryz.f156.name, by kernel_rfl, Tryz.func156.trans (congrArg some (by kernel_rfl))⟩
 f23 := ⟨Tryz.f157.name, by kernel_rfl, Tryz.func157.trans (congrArg some (by kernel_rfl))⟩
 f24 := ⟨Tryz.f158.name, by kernel_rfl, Tryz.func158.trans (congrArg some (by kernel_rfl))⟩
 f25 := ⟨Tryz.f159.name, by kernel_rfl, Tryz.func159.trans (congrArg some (by kernel_rfl))⟩
 f26 := ⟨Tryz.f160.name, by kernel_rfl, Tryz.func160.trans (congrArg some (by kernel_rfl))⟩
 f27 := ⟨Tryz.f121.name, by kernel_rfl, Tryz.func121.trans (congrArg some (by kernel_rfl))⟩
 f28 := ⟨Tryz.f161.name, by kernel_rfl, Tryz.func161.trans (congrArg some (by kernel_rfl))⟩
 f29 := ⟨Tryz.f162.name, by kernel_rfl, Tryz.func162.trans (congrArg some (by kernel_rfl))⟩
 f31 := by kernel_rfl
 f32 := by kernel_rfl
 f36 := ⟨Tryz.f181.name, by kernel_rfl, Tryz.func181.trans (congrArg some (by kernel_rfl))⟩
 f37 := ⟨Tryz.f182.name, by kernel_rfl, Tryz.func182.trans (congrArg some (by kernel_rfl))⟩
 f38 := ⟨Tryz.f183.name, by kernel_rfl, Tryz.func183.trans (congrArg some (by kernel_rfl))⟩
 f39 := ⟨Tryz.f135.name, by kernel_rfl, Tryz.func135.trans (congrArg some (by kernel_rfl))⟩
 f41 := ⟨Tryz.f191.name, by kernel_rfl, Tryz.func191.trans (congrArg some (by kernel_rfl))⟩
 t0 := by kernel_rfl
 a0 := fun _ => by kernel_rfl
 z0 := fun _ => by kernel_rfl
 v0 := fun _ => by kernel_rfl
 t3 := by kernel_rfl
 a3 := fun _ => by kernel_rfl
 z3 := fun _ => by kernel_rfl
 v3 := fun _ => by kernel_rfl
 t4 := by kernel_rfl
 a4 := fun _ => by kernel_rfl
 z4 := fun _ => by kernel_rfl
 v4 := fun _ => by kernel_rfl
 t5 := by kernel_rfl
 a5 := fun _ => by kernel_rfl
 z5 := fun _ => by kernel_rfl
 v5 := fun _ => by kernel_rfl
 t9 := by kernel_rfl
 a9 := fun _ => by kernel_rfl
 z9 := fun _ => by kernel_rfl
 v9 := fun _ => by kernel_rfl
 t26 := by kernel_rfl
 a26 := fun _ => by kernel_rfl
 z26 := fun _ => by kernel_rfl
 v26 := fun _ => by kernel_rfl
 t27 := by kernel_rfl
 a27 := fun _ => by kernel_rfl
 z27 := fun _ => by kernel_rfl
 v27 := fun _ => by kernel_rfl
 t29 := by kernel_rfl
 a29 := fun _ => by kernel_rfl
 z29 := fun _ => by kernel_rfl
 v29 := fun _ => by kernel_rfl
 t32 := by kernel_rfl
 a32 := fun _ => by kernel_rfl
 z32 := fun _ => by kernel_rfl
 v32 := fun _ => by kernel_rfl
 t35 := by kernel_rfl
 a35 := fun _ => by kernel_rfl
 z35 := fun _ => by kernel_rfl
 v35 := fun _ => by kernel_rfl
 t36 := by kernel_rfl
 a36 := fun _ => by kernel_rfl
 z36 := fun _ => by kernel_rfl
 v36 := fun _ => by kernel_rfl
 t41 := by kernel_rfl
 a41 := fun _ => by kernel_rfl
 z41 := fun _ => by kernel_rfl
 v41 := fun _ => by kernel_rfl
 t44 := by kernel_rfl
 a44 := fun _ => by kernel_rfl
 z44 := fun _ => by kernel_rfl
 v44 := fun _ => by kernel_rfl
 t46 := by kernel_rfl
 a46 := fun _ => by kernel_rfl
 z46 := fun _ => by kernel_rfl
 v46 := fun _ => by kernel_rfl
 t53 := by kernel_rfl
 a53 := fun _ => by kernel_rfl
 z53 := fun _ => by kernel_rfl
 v53 := fun _ => by kernel_rfl
 t57 := by kernel_rfl
 a57 := fun _ => by kernel_rfl
 z57 := fun _ => by kernel_rfl
 v57 := fun _ => by kernel_rfl
 t63 := by kernel_rfl
 a63 := fun _ => by kernel_rfl
 z63 := fun _ => by kernel_rfl
 v63 := fun _ => by kernel_rfl
 t64 := by kernel_rfl
 a64 := fun _ => by kernel_rfl
 z64 := fun _ => by kernel_rfl
 v64 := fun _ => by kernel_rfl
theorem kSorts (m : Nat) : AnyZ.SortsIn Tryz.prog kRen6 Fence.wide m :=
 ⟨fun blk off cap ss W hH hblk hsz => callsIn_wide.2 (AnyM.slices_Sort_string kLaysM blk off cap ss W hH hblk hsz),
 fun p cap W => callsIn_wide.2 (AnyM.slices_Sort_string_none kLaysM p cap W)⟩
theorem kKeys (mb : Option Nat) (W : World) : CallsIn Fence.wide 5 Tryz.prog 98 #[.map mb] W fun e w' => e = .returned (.func (.func 120) #[] #[.pointer (some ⟨W.heap.size, 0, none⟩)]) ∧ w' = W.alloc (.cells #[.map mb] 100) :=
 AnyZ.keys_in kLays7 Fence.wide 5 trivial rfl mb W
set_option maxHeartbeats 1000000 in
theorem kSorted {H : Type} (b nn : Nat) (D0 : DataW H) (R : Value → Option (DataW H × List MemPlace)) (w : World) (hown : w.ownsMap Tryz.prog 9 R b nn D0) (hmax : Maps.size D0 ≤ maxLen) (hbytes : Maps.size D0 * 16 ≤ 140737488355328) :
  CallsIn Fence.wide 5 Tryz.prog 97 #[.func (.func 120) #[] #[.pointer (some ⟨w.heap.size, 0, none⟩)]] (w.alloc (.cells #[.map (some b)] 100)) fun e w' => ∃ (v : Value) (ss : List (List UInt8)), e = .returned v ∧ ss.Perm (strKeys D0) ∧
   w'.ownsRow (w.alloc (.cells #[.map (some b)] 100)).heap.size 9 1 v ss.length ((ss.mergeSort (fun x y => decide (x ≤ y))).map encStr) ∧ (v = .slice none 0 0 ↔ ss = []) ∧ Below (w.alloc (.cells #[.map (some b)] 100)).heap.size (w.alloc (.cells #[.map (some b)] 100)) w' := by
 have hbl := hown.lt
 have hseq : SeqGives Fence.wide 2 Tryz.prog 120 #[.pointer (some ⟨w.heap.size, 0, none⟩)] encStr (fun ss => ss.Perm (strKeys D0)) (Maps.size D0) (w.alloc (.cells #[.map (some b)] 100)) :=
  AnyZ.keys_gives (ρ := kRen7) { kLays7 with } Fence.wide _ trivial rfl (by omega) w.heap.size b nn D0 _ (by simp) (by simp) (by
   obtain ⟨es, clock, hb, Ft, hs, hD⟩ := hown
   exact ⟨es, clock, (Below.heap_alloc _ _ b hbl).trans hb, Ft, hs, hD⟩)
 exact AnyZ.sorted_in kLays6 Fence.wide 5 trivial trivial trivial trivial rfl (by omega) (kSorts _) (enters_of Tryz.func119 (by kernel_rfl) rfl) 120 #[.pointer (some ⟨w.heap.size, 0, none⟩)] trivial (enters_of Tryz.func120 (by kernel_rfl) rfl) _ _ hmax hbytes _ hseq
theorem keysOK : KeysOK := by
 refine ⟨fun mb W => callsIn_wide.1 (kKeys (some mb) W), fun b nn D w hown ht S hS hm hl => ?_⟩
 have hsz : Maps.size D = S.length := by
  obtain ⟨es, rfl, he⟩ := ht
  have hk : ∀ p ∈ es, ∃ x, p.1 = .string x := by
   obtain ⟨es', e', hk'⟩ := hown.keysOf
   cases e'
   intro p hp
   obtain ⟨key, hkey⟩ := hk' p hp
   obtain ⟨x, _, h2, _⟩ := Maps.keyOf_str Tryz.underlying9 hkey
   exact ⟨x, h2⟩
  have hnd : S.Nodup := hS.imp fun h e => by subst e; exact List.lt_irrefl _ h
  have := (perm_strKeys he hk hnd hm).length_eq
  rw [this]
  simp [Maps.size, strKeys]
 refine (callsIn_wide.1 (kSorted b nn D itemElem w hown (by rw [hsz]; unfold maxLen; omega) (by omega))).mono ?_
 rintro e w' ⟨v, ss, rfl, hp, hrow, _, hb⟩
 have hso := sorted_keys hown ht hS hm hp
 have hln : ss.length = S.length := by rw [← hso, List.length_mergeSort]
 rw [hso, hln, World.size_alloc] at hrow
 rw [World.size_alloc] at hb
 exact ⟨v, rfl, hrow, hb⟩
end Go.Proofs.YtbihndholamdfaaGreatDoor
/- impl.Get. -/
namespace Go.Proofs.YtbihndholamdfaaGreatDoor
open Go.RowKit Go.Sort
theorem sums_inj {n : Int} {its : Itms} (hN : (sumsL n its).Pairwise (· < ·)) {i j : Nat} (hi : i < its.length) (hj : j < its.length) (h : (sumX n (itx its i)).data.toList = (sumX n (itx its j)).data.toList) : i = j := by
 obtain ⟨_, g1⟩ := List.getElem_of_getElem? (sumsL_get n its i hi)
 obtain ⟨_, g2⟩ := List.getElem_of_getElem? (sumsL_get n its j hj)
 rcases Nat.lt_trichotomy i j with hl | hl | hl
 ·have h1 := List.pairwise_iff_getElem.1 hN i j (by rw [sumsL_len]; omega) (by rw [sumsL_len]; omega) hl
  rw [g1, g2, h] at h1
  exact absurd h1 (List.lt_irrefl _)
 ·exact hl
 ·have h1 := List.pairwise_iff_getElem.1 hN j i (by rw [sumsL_len]; omega) (by rw [sumsL_len]; omega) hl
  rw [g1, g2, h] at h1
  exact absurd h1 (List.lt_irrefl _)
/-- 'v, ok := m[k]' of the map of items. -/
theorem wpList_look_item {ops : Array Oper} {rest : List Oper} {o : Oper} {a : Act} {Q : Exit → Act → World → Prop} (w : World) (hg : o.guard = none) (m x : Operand) (hop : o.op = Op.lookup 100 m x true) (b n : Nat) (D : DataW Unit)
  (hm : a.eval m = .map (some b)) (hown : w.ownsMap Tryz.prog 9 itemElem b n D) (s : ByteArray) (hs : s.size ≤ maxLen) (hx : a.eval x = .string s) (t : ByteArray) (u : Int) (hat : D.atKey (.string s.data.toList) (datI (⟨#[]⟩, 0)) = datI (t, u)) (hh : Bool) (hhas : Maps.has D (.string s.data.toList) = hh)
  (hK : wpList Tryz.prog ops Q rest (a.put o.dst (.tuple #[.agg #[.string t, .int .i64 u], .bool hh])) w) : wpList Tryz.prog ops Q (o :: rest) a w := by
 refine wpList_lookup_own_ok w hg m x 100 hop 9 122 keyed9 Tryz.underlying100 itemElem (zvItem w) (datI (⟨#[]⟩, 0)) [] (itemElem_mk ⟨#[]⟩ 0) b n D hm hown (.string s) _ hx (key9 s hs) ?_
 intro v ps hv
 rw [hat] at hv
 obtain rfl := itemElem_inv hv
 rw [hhas]
 exact hK
end Go.Proofs.YtbihndholamdfaaGreatDoor
