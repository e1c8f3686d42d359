import Derived.Test.YtiidodobadamgaaGreatDoorShelfStore
import Derived.Laws.AppendOwnNone
import Derived.Shelf.SlIter.Nil
import Derived.Shelf.SortM.Plain
import Derived.Shelf.SortM.SortNone
import Derived.Test.YtiidodobadamgaaGreatDoorReadTurned
/- spec.l4Copy: a store in rows of its own. -/
namespace Go.Proofs.YtiidodobadamgaaGreatDoor
open Go.RowKit
theorem Blk.belowAt {W W' : World} {b B : Nat} {T : TypeId} {cs : Array Value} (h : Blk W b T cs) (hb : Below B W W') (hlt : b < B) : Blk W' b T cs := (hb.block b hlt).trans h
theorem cellsI_one (its : Itms) : ∀ u ∈ cellsI its, u.oneCell' = true := by
  intro u hu
  unfold cellsI at hu
  rw [List.mem_flatMap] at hu
  obtain ⟨p, _, hp⟩ := hu
  simp only [List.mem_cons, List.not_mem_nil, or_false] at hp
  rcases hp with rfl | rfl <;> rfl
/-- append of items onto an own row of none. -/
theorem append_items {ops : Array Oper} {rest : List Oper} {o : Oper} {a : Act} {w : World} {Q : Exit → Act → World → Prop} (hgd : o.guard = none) (s x : Operand)
    (ho : o.op = .call { callee := .builtin .append, args := #[s, x], argTypes := #[29, 29] }) (B : Nat) (v : Value) (hs : a.eval s = v) (hown : w.ownsRow B 66 2 v 0 [])
    (b2 : Nat) (v2 : Value) (its : Itms) (hx : a.eval x = v2) (hrow : OwnI w b2 v2 its) (hlen : its.length ≤ 1048576) (hB : B ≤ w.heap.size)
    (h : ∀ v' w', w'.ownsRow B 66 2 v' its.length (cellsI its) → Below B w w' → wpList Tryz.prog ops Q rest (a.put o.dst v') w') : wpList Tryz.prog ops Q (o :: rest) a w := by
  obtain ⟨i0, hi, hz0, hz1, hz2⟩ := info_parts Tryz.infoItem
  obtain ⟨g, rfl, _, hG⟩ := hrow
  refine wpList_append_own w hgd s x 29 ho B 66 i0 (.agg #[.string ⟨#[]⟩, .int .i64 0]) 2 24 Tryz.underlying29 hi hz0 hz1 hz2 rfl (by decide) v 0 [] hs hown ⟨g, 0, none⟩ its.length its.length (cellsI its) hx (cellsI_len its) (fun j u hj => ?_) (cellsI_one its) (by unfold maxLen; omega) (by omega) hB ?_
  · have e : (⟨g, 0, none⟩ : Addr).add j = ⟨g, j, none⟩ := by simp [Addr.add]; intro h; exact h.symm
    rw [e, hG.cell]
    simpa using hj
  · intro v' w' ho' hg' _
    refine h v' w' ?_ ((Below.refl B w).grown hg' hB (fun g e => (hown.lt g e).1))
    rw [Nat.zero_add, List.nil_append] at ho'
    exact ho'
/-- append of a row of texts onto an own row of none. -/
theorem append_texts {ops : Array Oper} {rest : List Oper} {o : Oper} {a : Act} {w : World} {Q : Exit → Act → World → Prop} (hgd : o.guard = none) (s x : Operand)
    (ho : o.op = .call { callee := .builtin .append, args := #[s, x], argTypes := #[23, 23] }) (B : Nat) (v : Value) (hs : a.eval s = v) (hown : w.ownsRow B 9 1 v 0 [])
    (b2 : Nat) (v2 : Value) (ts : List ByteArray) (hx : a.eval x = v2) (hrow : w.ownsRow b2 9 1 v2 ts.length (ts.map Value.string)) (hlen : ts.length ≤ 1048576) (hB : B ≤ w.heap.size)
    (h : ∀ v' w', w'.ownsRow B 9 1 v' ts.length (ts.map Value.string) → Below B w w' → wpList Tryz.prog ops Q rest (a.put o.dst v') w') : wpList Tryz.prog ops Q (o :: rest) a w := by
  obtain ⟨i0, hi, hz0, hz1, hz2⟩ := info_parts Tryz.info9
  have hrow0 := hrow
  rcases hrow with ⟨hl, ⟨rfl, h0⟩ | ⟨g, cap, cur, rfl, hb, hg, hn, hm, hsz, hxs⟩⟩
  · have : ts = [] := List.eq_nil_of_length_eq_zero h0
    subst this
    exact wpList_append_own_none hgd s x 23 ho B 9 i0 1 Tryz.underlying23 hi v 0 [] hs hown hx (h v w hown (Below.refl _ _))
  · refine wpList_append_own w hgd s x 23 ho B 9 i0 (.string ⟨#[]⟩) 1 16 Tryz.underlying23 hi hz0 hz1 hz2 rfl (by decide) v 0 [] hs hown ⟨g, 0, none⟩ ts.length cap (ts.map Value.string) hx hl (fun j u hj => ?_) (by simp [Value.oneCell']) (by unfold maxLen; omega) (by omega) hB ?_
    · have hjl := (List.getElem?_eq_some_iff.1 hj).1
      have hc := hrow0.cellAt j (by simp at hjl; omega)
      have e : (⟨g, 0, none⟩ : Addr).add j = ⟨g, j, none⟩ := by simp [Addr.add]; intro h; exact h.symm
      rw [e, hc, hj]
    · intro v' w' ho' hg' _
      refine h v' w' ?_ ((Below.refl B w).grown hg' hB (fun g e => (hown.lt g e).1))
      rw [Nat.zero_add, List.nil_append] at ho'
      exact ho'
theorem row_any {w : World} {base n size : Nat} {e : TypeId} {v : Value} {xs : List Value} (h : w.ownsRow base e size v n xs) : ∃ a cap, v = .slice a n cap := by
  rcases h with ⟨_, ⟨rfl, rfl⟩ | ⟨g, cap, cur, rfl, hb, _⟩⟩
  · exact ⟨none, 0, rfl⟩
  · exact ⟨_, cap, rfl⟩
end Go.Proofs.YtiidodobadamgaaGreatDoor
/- spec.Get: looked for. -/
namespace Go.Proofs.YtiidodobadamgaaGreatDoor
open Go.RowKit
/-- A store in rows of its own. -/
structure StoreOwn (w : World) (B : Nat) (vi vp : Value) (its : Itms) (ts : List ByteArray) : Prop where
  items : w.ownsRow B 66 2 vi its.length (cellsI its)
  pins : w.ownsRow B 9 1 vp ts.length (ts.map Value.string)
  apart : ∀ g, vi.ownBlock = some g → vp.ownBlock ≠ some g
theorem StoreOwn.none (w : World) (B : Nat) : StoreOwn w B (.slice .none 0 0) (.slice .none 0 0) [] [] := ⟨World.ownsRow_nil _ _ _ _, World.ownsRow_nil _ _ _ _, fun g e => by simp [Value.ownBlock] at e⟩
theorem StoreOwn.below {w w' : World} {B : Nat} {vi vp : Value} {its : Itms} {ts : List ByteArray} (h : StoreOwn w B vi vp its ts) (hb : Below w.heap.size w w') : StoreOwn w' B vi vp its ts :=
  ⟨h.items.kept (grown_of_below hb) (by cases hv : vi.ownBlock <;> simp), Below.row hb h.pins, h.apart⟩
theorem StoreOwn.base {w : World} {B B' : Nat} {vi vp : Value} {its : Itms} {ts : List ByteArray} (h : StoreOwn w B vi vp its ts) (hb : B' ≤ B) : StoreOwn w B' vi vp its ts := ⟨ownsRow_base2 h.items hb, ownsRow_base2 h.pins hb, h.apart⟩
theorem StoreOwn.kept {w w' : World} {B k : Nat} {vi vp : Value} {its : Itms} {ts : List ByteArray} (h : StoreOwn w B vi vp its ts) (hg : w.grownBy w' (some k)) (hk : k < B) : StoreOwn w' B vi vp its ts :=
  ⟨h.items.kept hg (.inr fun e => by have := (h.items.lt _ e).1; omega), h.pins.kept hg (.inr fun e => by have := (h.pins.lt _ e).1; omega), h.apart⟩
theorem StoreOwn.rdi {w : World} {B : Nat} {vi vp : Value} {its : Itms} {ts : List ByteArray} (h : StoreOwn w B vi vp its ts) : RdI w vi its := by
  have hr := h.items
  rcases h.items with ⟨_, ⟨rfl, h0⟩ | ⟨g, cap, cur, rfl, hb, hg, _⟩⟩
  · have : its = [] := List.eq_nil_of_length_eq_zero h0
    subst this
    exact ⟨_, 0, rfl, fun i hi => absurd hi (by simp)⟩
  · refine ⟨_, cap, rfl, fun i hi => ⟨g, 0, rfl, (Array.getElem?_eq_some_iff.1 hg).1, ?_, ?_⟩⟩
    · rw [Nat.zero_add, hr.cellAt _ (by omega)]; exact (cellsI_at its i hi).1
    · rw [Nat.zero_add, hr.cellAt _ (by omega)]; exact (cellsI_at its i hi).2
/-- What Get answers. -/
def GetOk (wd room : Int) (its : Itms) (ts : List ByteArray) (s : ByteArray) (now : Int) : Prop := ValidSt wd room its ts ∧ (0 ≤ now ∧ now ≤ 1000000) ∧ ∃ i, i < its.length ∧ sumX wd (itx its i) = s
def GetR (wd room : Int) (its : Itms) (ts : List ByteArray) (s : ByteArray) (now : Int) (x : ByteArray) (wd' room' : Int) (its' : Itms) (ts' : List ByteArray) (b : Bool) : Prop :=
  (x = ⟨#[]⟩ ∧ wd' = 0 ∧ room' = 0 ∧ its' = [] ∧ ts' = [] ∧ b = false ∧ ¬ GetOk wd room its ts s now) ∨
  (b = true ∧ wd' = wd ∧ room' = room ∧ ts' = ts ∧ GetOk wd room its ts s now ∧ ∃ i, i < its.length ∧ sumX wd (itx its i) = s ∧ x = itx its i ∧ its' = its.set i (itx its i, now))
theorem cell_drew (X : World) (p : Addr) : X.drew.cell? p = X.cell? p := rfl
theorem cellsI_set (its : Itms) (i : Nat) (now : Int) (h : i < its.length) : (cellsI its).set (i * 2 + 1) (.int .i64 now) = cellsI (its.set i (itx its i, now)) := by
  induction its generalizing i with
  | nil => simp at h
  | cons p r ih =>
    cases i with
    | zero => simp [cellsI, itx]
    | succ i =>
      have := ih i (by simpa using h)
      have e : (i + 1) * 2 + 1 = i * 2 + 1 + 1 + 1 := by omega
      rw [e]
      simpa [cellsI, itx] using this
end Go.Proofs.YtiidodobadamgaaGreatDoor
/- slices.Sorted of maps.Keys of the map of items, laid at this program. -/
namespace Go.Proofs.YtiidodobadamgaaGreatDoor
open Go.RowKit Go.Maps Go.Sort Go.Shelf
end Go.Proofs.YtiidodobadamgaaGreatDoor
/- impl.Get. -/
namespace Go.Proofs.YtiidodobadamgaaGreatDoor
open Go.RowKit Go.Sort
theorem itx_set (its : Itms) (i : Nat) (now : Int) (h : i < its.length) (j : Nat) : itx (its.set i (itx its i, now)) j = itx its j := by
  by_cases e : i = j
  · subst e; simp [itx, h]
  · simp [itx, List.getElem?_set_ne e]
theorem itu_same (its : Itms) (i : Nat) (now : Int) (h : i < its.length) : itu (its.set i (itx its i, now)) i = now := by simp [itu, h]
theorem itu_other (its : Itms) (i : Nat) (now : Int) (j : Nat) (e : i ≠ j) : itu (its.set i (itx its i, now)) j = itu its j := by simp [itu, List.getElem?_set_ne e]
theorem sumsL_set (n : Int) (its : Itms) (i : Nat) (now : Int) (h : i < its.length) : sumsL n (its.set i (itx its i, now)) = sumsL n its := by
  apply List.ext_getElem?
  intro j
  by_cases hj : j < its.length
  · rw [sumsL_get n _ j (by simpa using hj), sumsL_get n _ j hj, itx_set its i now h j]
  · rw [List.getElem?_eq_none (by rw [sumsL_len]; simp; omega), List.getElem?_eq_none (by rw [sumsL_len]; omega)]
theorem sums_inj {n : Int} {its : Itms} (hN : (sumsL n its).Pairwise (· < ·)) {i j : Nat} (hi : i < its.length) (hj : j < its.length) (h : (sumX n (itx its i)).data.toList = (sumX n (itx its j)).data.toList) : i = j := by
  obtain ⟨_, g1⟩ := List.getElem_of_getElem? (sumsL_get n its i hi)
  obtain ⟨_, g2⟩ := List.getElem_of_getElem? (sumsL_get n its j hj)
  rcases Nat.lt_trichotomy i j with hl | hl | hl
  · have h1 := List.pairwise_iff_getElem.1 hN i j (by rw [sumsL_len]; omega) (by rw [sumsL_len]; omega) hl
    rw [g1, g2, h] at h1
    exact absurd h1 (List.lt_irrefl _)
  · exact hl
  · have h1 := List.pairwise_iff_getElem.1 hN j i (by rw [sumsL_len]; omega) (by rw [sumsL_len]; omega) hl
    rw [g1, g2, h] at h1
    exact absurd h1 (List.lt_irrefl _)
/-- 'v, ok := m[k]' of the map of items. -/
theorem wpList_look_item {ops : Array Oper} {rest : List Oper} {o : Oper} {a : Act} {Q : Exit → Act → World → Prop} (w : World) (hg : o.guard = none) (m x : Operand) (hop : o.op = Op.lookup 72 m x true) (b n : Nat) (D : DataW Unit)
    (hm : a.eval m = .map (some b)) (hown : w.ownsMap Tryz.prog 9 itemElem b n D) (s : ByteArray) (hs : s.size ≤ maxLen) (hx : a.eval x = .string s) (t : ByteArray) (u : Int) (hat : D.atKey (.string s.data.toList) (datI (⟨#[]⟩, 0)) = datI (t, u)) (hh : Bool) (hhas : Maps.has D (.string s.data.toList) = hh)
    (hK : wpList Tryz.prog ops Q rest (a.put o.dst (.tuple #[.agg #[.string t, .int .i64 u], .bool hh])) w) : wpList Tryz.prog ops Q (o :: rest) a w := by
  refine wpList_lookup_own_ok w hg m x 72 hop 9 66 keyed9 Tryz.underlying72 itemElem (zvItem w) (datI (⟨#[]⟩, 0)) [] (itemElem_mk ⟨#[]⟩ 0) b n D hm hown (.string s) _ hx (key9 s hs) ?_
  intro v ps hv
  rw [hat] at hv
  obtain rfl := itemElem_inv hv
  rw [hhas]
  exact hK
end Go.Proofs.YtiidodobadamgaaGreatDoor
/- What pins need. -/
namespace Go.Proofs.YtiidodobadamgaaGreatDoor
open Go.RowKit
/-- The text of the item with a sum, and the empty one where there is none. -/
def Under (wd : Int) (its : Itms) (s t : ByteArray) : Prop := (∃ i, i < its.length ∧ sumX wd (itx its i) = s ∧ t = itx its i) ∨ ((∀ i, i < its.length → sumX wd (itx its i) ≠ s) ∧ t = ⟨#[]⟩)
/-- The list that the item with a sum is read as. -/
def UL (wd : Int) (its : Itms) (s : ByteArray) (n : Int) (ss : List ByteArray) (ok : Bool) : Prop := ∃ t, Under wd its s t ∧ ReadR t wd n ss ok
theorem Under.uniq {wd : Int} {its : Itms} {s t t' : ByteArray} (hN : (sumsL wd its).Pairwise (· < ·)) (h : Under wd its s t) (k : Under wd its s t') : t = t' := by
  rcases h with ⟨i, hi, e, rfl⟩ | ⟨hn, rfl⟩ <;> rcases k with ⟨j, hj, e', rfl⟩ | ⟨kn, rfl⟩
  · have := sums_inj hN hi hj (by rw [e, e'])
    subst this
    rfl
  · exact absurd e (kn i hi)
  · exact absurd e' (hn j hj)
  · rfl
theorem UL.uniq {wd : Int} {its : Itms} {s : ByteArray} {n n' : Int} {ss ss' : List ByteArray} {ok ok' : Bool} (hN : (sumsL wd its).Pairwise (· < ·)) (h : UL wd its s n ss ok) (k : UL wd its s n' ss' ok') : n = n' ∧ ss = ss' ∧ ok = ok' := by
  obtain ⟨t, ht, hr⟩ := h
  obtain ⟨t', kt, kr⟩ := k
  obtain rfl := ht.uniq hN kt
  exact hr.uniq kr
theorem read_none (wd : Int) : ReadR ⟨#[]⟩ wd 0 [] false := .inr ⟨rfl, rfl, rfl, noForm_size (.inl (by show (0 : Nat) < 6; omega))⟩
theorem ReadR.few {s : ByteArray} {m n : Int} {ss : List ByteArray} {ok : Bool} (h : ReadR s m n ss ok) : ss.length ≤ 375 ∧ (ok = false → ss = []) ∧ ∀ x ∈ ss, (x.size : Int) = m ∧ isW m = true := by
  rcases h with ⟨e, h, _⟩ | ⟨_, _, rfl, _⟩
  · have := okL_parts h
    exact ⟨this.2.2.1, fun h => (by rw [e] at h; cases h), fun x hx => ⟨this.2.2.2 x hx, this.1⟩⟩
  · exact ⟨by simp, fun _ => rfl, fun x hx => by cases hx⟩
theorem UL.few {wd : Int} {its : Itms} {s : ByteArray} {n : Int} {ss : List ByteArray} {ok : Bool} (h : UL wd its s n ss ok) : ss.length ≤ 375 ∧ (ok = false → ss = []) ∧ ∀ x ∈ ss, (x.size : Int) = wd ∧ isW wd = true := by
  obtain ⟨t, _, hr⟩ := h
  exact hr.few
def NeedX (wd : Int) (its : Itms) (p x : ByteArray) : Prop := x = p ∨ ∃ n ss ok, UL wd its p n ss ok ∧ x ∈ ss
def NeedTo (wd : Int) (its : Itms) (ts : List ByteArray) (k : Nat) (x : ByteArray) : Prop := ∃ j, j < k ∧ NeedX wd its (tv ts j) x
/-- What Needed answers of a valid store. -/
structure NeedR (wd : Int) (its : Itms) (ts : List ByteArray) (k : Nat) (out : List ByteArray) : Prop where
  asc : Asc out
  mem : ∀ x, x ∈ out ↔ NeedTo wd its ts k x
theorem NeedX.of_list {wd : Int} {its : Itms} {p x : ByteArray} {n : Int} {ss : List ByteArray} {ok : Bool} (hN : (sumsL wd its).Pairwise (· < ·)) (h : UL wd its p n ss ok) : NeedX wd its p x ↔ x = p ∨ x ∈ ss := by
  constructor
  · rintro (e | ⟨n', ss', ok', h', hx⟩)
    · exact .inl e
    · obtain ⟨_, rfl, _⟩ := h.uniq hN h'
      exact .inr hx
  · rintro (e | hx)
    · exact .inl e
    · exact .inr ⟨n, ss, ok, h, hx⟩
theorem NeedTo.succ {wd : Int} {its : Itms} {ts : List ByteArray} {k : Nat} {x : ByteArray} : NeedTo wd its ts (k + 1) x ↔ NeedTo wd its ts k x ∨ NeedX wd its (tv ts k) x := by
  constructor
  · rintro ⟨j, hj, h⟩
    rcases Nat.lt_or_eq_of_le (Nat.le_of_lt_succ hj) with h1 | h1
    · exact .inl ⟨j, h1, h⟩
    · subst h1
      exact .inr h
  · rintro (⟨j, hj, h⟩ | h)
    · exact ⟨j, by omega, h⟩
    · exact ⟨k, by omega, h⟩
theorem asc_lists {ts : List ByteArray} (h : Asc ts) : (ts.map fun b => b.data.toList).Pairwise (· < ·) := List.Pairwise.map (f := fun b : ByteArray => b.data.toList) (S := (· < ·)) (fun _ _ hab => tlt_lt hab) h
theorem mem_lists {ts : List ByteArray} {x : ByteArray} : x.data.toList ∈ (ts.map fun b => b.data.toList) ↔ x ∈ ts := by
  rw [List.mem_map]
  constructor
  · rintro ⟨y, hy, e⟩
    obtain rfl : y = x := ByteArray.ext (by simpa using e)
    exact hy
  · exact fun h => ⟨x, h, rfl⟩
theorem asc_eq : ∀ {a b : List ByteArray}, Asc a → Asc b → (∀ x, x ∈ a ↔ x ∈ b) → a = b
  | [], [], _, _, _ => rfl
  | [], y :: b, _, _, h => by have := (h y).2 (by simp); cases this
  | x :: a, [], _, _, h => by have := (h x).1 (by simp); cases this
  | x :: a, y :: b, ha, hb, h => by
    have h1 := List.pairwise_cons.1 ha
    have h2 := List.pairwise_cons.1 hb
    have e : x = y := by
      rcases List.mem_cons.1 ((h x).1 (by simp)) with e | hx
      · exact e
      · rcases List.mem_cons.1 ((h y).2 (by simp)) with e | hy
        · exact e.symm
        · have k1 := h2.1 x hx
          have k2 := h1.1 y hy
          have := tlt_trans k1 k2
          rw [tlt_irrefl] at this
          cases this
    subst e
    have e2 : a = b := asc_eq h1.2 h2.2 (fun z => by
      constructor
      · intro hz
        rcases List.mem_cons.1 ((h z).1 (List.mem_cons_of_mem _ hz)) with e | hz'
        · subst e
          have := h1.1 z hz
          rw [tlt_irrefl] at this
          cases this
        · exact hz'
      · intro hz
        rcases List.mem_cons.1 ((h z).2 (List.mem_cons_of_mem _ hz)) with e | hz'
        · subst e
          have := h2.1 z hz
          rw [tlt_irrefl] at this
          cases this
        · exact hz')
    rw [e2]
theorem NeedR.uniq {wd : Int} {its : Itms} {ts : List ByteArray} {k : Nat} {a b : List ByteArray} (h : NeedR wd its ts k a) (g : NeedR wd its ts k b) : a = b := asc_eq h.asc g.asc fun x => (h.mem x).trans (g.mem x).symm
/-- One more text in its place. -/
def putT (s : ByteArray) (ts : List ByteArray) : List ByteArray := if cutN s ts < ts.length ∧ tv ts (cutN s ts) = s then ts else ts.take (cutN s ts) ++ s :: ts.drop (cutN s ts)
theorem putT_mem {s : ByteArray} {ts : List ByteArray} (x : ByteArray) : x ∈ putT s ts ↔ x = s ∨ x ∈ ts := by
  unfold putT
  split
  · next h =>
    constructor
    · exact .inr
    · rintro (e | hx)
      · subst e
        have := h.2
        unfold tv at this
        rw [List.getD_eq_getElem?_getD, List.getElem?_eq_getElem h.1] at this
        have h3 : ts[cutN x ts]'h.1 = x := by simpa using this
        exact h3 ▸ List.getElem_mem h.1
      · exact hx
  · have e : ts = ts.take (cutN s ts) ++ ts.drop (cutN s ts) := (List.take_append_drop _ _).symm
    constructor
    · intro hx
      rcases List.mem_append.1 hx with h1 | h1
      · exact .inr (List.mem_of_mem_take h1)
      · rcases List.mem_cons.1 h1 with h2 | h2
        · exact .inl h2
        · exact .inr (List.mem_of_mem_drop h2)
    · rintro (h1 | h1)
      · subst h1
        simp
      · rw [e] at h1
        rcases List.mem_append.1 h1 with h2 | h2
        · exact List.mem_append_left _ h2
        · exact List.mem_append_right _ (List.mem_cons_of_mem _ h2)
theorem putT_asc {s : ByteArray} {ts : List ByteArray} (h : Asc ts) : Asc (putT s ts) := by
  unfold putT
  split
  · exact h
  · next hn =>
    have ht : ∀ x ∈ ts.take (cutN s ts), tlt x s = true := by
      rw [← cut_take s ts h]
      intro x hx
      exact (List.mem_filter.1 hx).2
    have hd : ∀ x ∈ ts.drop (cutN s ts), tlt s x = true := by
      intro x hx
      have h1 : tlt x s = false := by
        have : x ∈ ts.filter (fun t => !tlt t s) := by rw [cut_drop s ts h]; exact hx
        simpa using (List.mem_filter.1 this).2
      by_cases hx2 : tlt s x = true
      · exact hx2
      · exfalso
        have e : x = s := text_eq (bl_total _ _ h1 (Bool.eq_false_iff.2 hx2))
        subst e
        obtain ⟨i, hi, e2⟩ := List.mem_iff_getElem.1 hx
        rw [List.getElem_drop] at e2
        rw [List.length_drop] at hi
        by_cases h0 : i = 0
        · subst h0
          refine hn ⟨by omega, ?_⟩
          unfold tv
          rw [List.getD_eq_getElem?_getD, List.getElem?_eq_getElem (by omega)]
          simpa using e2
        · have h3 := List.pairwise_iff_getElem.1 h (cutN x ts) (cutN x ts + i) (by omega) (by omega) (by omega)
          rw [e2] at h3
          have h4 := cut_above x ts h (cutN x ts) (Nat.le_refl _) (by omega)
          unfold tv at h4
          rw [List.getD_eq_getElem?_getD, List.getElem?_eq_getElem (by omega)] at h4
          simp only [Option.getD_some] at h4
          rw [h3] at h4
          cases h4
    refine List.pairwise_append.2 ⟨asc_take h _, List.pairwise_cons.2 ⟨hd, asc_drop h _⟩, fun a ha b hb => ?_⟩
    rcases List.mem_cons.1 hb with e | hb
    · subst e
      exact ht a ha
    · exact tlt_trans (ht a ha) (hd b hb)
theorem putT_len (s : ByteArray) (ts : List ByteArray) : (putT s ts).length ≤ ts.length + 1 := by
  unfold putT
  split
  · omega
  · have := cutN_le s ts
    simp
    omega
end Go.Proofs.YtiidodobadamgaaGreatDoor
