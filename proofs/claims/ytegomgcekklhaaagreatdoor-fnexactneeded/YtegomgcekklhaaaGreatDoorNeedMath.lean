import Derived.Test.YtegomgcekklhaaaGreatDoorShelfStore
import Derived.Laws.AppendOwnNone
import Derived.Shelf.SlIter.Nil
import Derived.Shelf.SortM.Plain
import Derived.Shelf.SortM.SortNone
import Derived.Test.YtegomgcekklhaaaGreatDoorReadTurned
/- spec.l4Copy: a store in rows of its own. -/
namespace Go.Proofs.YtegomgcekklhaaaGreatDoor
open Go.RowKit
theorem Blk.belowAt {W W' : World} {b B : Nat} {T : TypeId} {cs : Array Value} (h : Blk W b T cs) (hb : Below B W W') (hlt : b < B) : Blk W' b T cs := (hb.block b hlt).trans h
theorem cellsI_one (its : Itms) : ∀ u ∈ cellsI its, u.oneCell' = true := by
  intro u hu
  unfold cellsI at hu
  rw [List.mem_flatMap] at hu
  obtain ⟨p, _, hp⟩ := hu
  simp only [List.mem_cons, List.not_mem_nil, or_false] at hp
  rcases hp with rfl | rfl <;> rfl
/-- append of items onto an own row of none. -/
theorem append_items {ops : Array Oper} {rest : List Oper} {o : Oper} {a : Act} {w : World} {Q : Exit → Act → World → Prop} (hgd : o.guard = none) (s x : Operand)
    (ho : o.op = .call { callee := .builtin .append, args := #[s, x], argTypes := #[28, 28] }) (B : Nat) (v : Value) (hs : a.eval s = v) (hown : w.ownsRow B 59 2 v 0 [])
    (b2 : Nat) (v2 : Value) (its : Itms) (hx : a.eval x = v2) (hrow : OwnI w b2 v2 its) (hlen : its.length ≤ 1048576) (hB : B ≤ w.heap.size)
    (h : ∀ v' w', w'.ownsRow B 59 2 v' its.length (cellsI its) → Below B w w' → wpList Tryz.prog ops Q rest (a.put o.dst v') w') : wpList Tryz.prog ops Q (o :: rest) a w := by
  obtain ⟨i0, hi, hz0, hz1, hz2⟩ := info_parts Tryz.infoItem
  obtain ⟨g, rfl, _, hG⟩ := hrow
  refine wpList_append_own w hgd s x 28 ho B 59 i0 (.agg #[.string ⟨#[]⟩, .int .i64 0]) 2 24 Tryz.underlying28 hi hz0 hz1 hz2 rfl (by decide) v 0 [] hs hown ⟨g, 0, none⟩ its.length its.length (cellsI its) hx (cellsI_len its) (fun j u hj => ?_) (cellsI_one its) (by unfold maxLen; omega) (by omega) hB ?_
  · have e : (⟨g, 0, none⟩ : Addr).add j = ⟨g, j, none⟩ := by simp [Addr.add]; intro h; exact h.symm
    rw [e, hG.cell]
    simpa using hj
  · intro v' w' ho' hg' _
    refine h v' w' ?_ ((Below.refl B w).grown hg' hB (fun g e => (hown.lt g e).1))
    rw [Nat.zero_add, List.nil_append] at ho'
    exact ho'
/-- append of a row of texts onto an own row of none. -/
theorem append_texts {ops : Array Oper} {rest : List Oper} {o : Oper} {a : Act} {w : World} {Q : Exit → Act → World → Prop} (hgd : o.guard = none) (s x : Operand)
    (ho : o.op = .call { callee := .builtin .append, args := #[s, x], argTypes := #[23, 23] }) (B : Nat) (v : Value) (hs : a.eval s = v) (hown : w.ownsRow B 9 1 v 0 [])
    (b2 : Nat) (v2 : Value) (ts : List ByteArray) (hx : a.eval x = v2) (hrow : w.ownsRow b2 9 1 v2 ts.length (ts.map Value.string)) (hlen : ts.length ≤ 1048576) (hB : B ≤ w.heap.size)
    (h : ∀ v' w', w'.ownsRow B 9 1 v' ts.length (ts.map Value.string) → Below B w w' → wpList Tryz.prog ops Q rest (a.put o.dst v') w') : wpList Tryz.prog ops Q (o :: rest) a w := by
  obtain ⟨i0, hi, hz0, hz1, hz2⟩ := info_parts Tryz.info9
  have hrow0 := hrow
  rcases hrow with ⟨hl, ⟨rfl, h0⟩ | ⟨g, cap, cur, rfl, hb, hg, hn, hm, hsz, hxs⟩⟩
  · have : ts = [] := List.eq_nil_of_length_eq_zero h0
    subst this
    exact wpList_append_own_none hgd s x 23 ho B 9 i0 1 Tryz.underlying23 hi v 0 [] hs hown hx (h v w hown (Below.refl _ _))
  · refine wpList_append_own w hgd s x 23 ho B 9 i0 (.string ⟨#[]⟩) 1 16 Tryz.underlying23 hi hz0 hz1 hz2 rfl (by decide) v 0 [] hs hown ⟨g, 0, none⟩ ts.length cap (ts.map Value.string) hx hl (fun j u hj => ?_) (by simp [Value.oneCell']) (by unfold maxLen; omega) (by omega) hB ?_
    · have hjl := (List.getElem?_eq_some_iff.1 hj).1
      have hc := hrow0.cellAt j (by simp at hjl; omega)
      have e : (⟨g, 0, none⟩ : Addr).add j = ⟨g, j, none⟩ := by simp [Addr.add]; intro h; exact h.symm
      rw [e, hc, hj]
    · intro v' w' ho' hg' _
      refine h v' w' ?_ ((Below.refl B w).grown hg' hB (fun g e => (hown.lt g e).1))
      rw [Nat.zero_add, List.nil_append] at ho'
      exact ho'
theorem row_any {w : World} {base n size : Nat} {e : TypeId} {v : Value} {xs : List Value} (h : w.ownsRow base e size v n xs) : ∃ a cap, v = .slice a n cap := by
  rcases h with ⟨_, ⟨rfl, rfl⟩ | ⟨g, cap, cur, rfl, hb, _⟩⟩
  · exact ⟨none, 0, rfl⟩
  · exact ⟨_, cap, rfl⟩
end Go.Proofs.YtegomgcekklhaaaGreatDoor
/- spec.Get: looked for. -/
namespace Go.Proofs.YtegomgcekklhaaaGreatDoor
open Go.RowKit
/-- A store in rows of its own. -/
structure StoreOwn (w : World) (B : Nat) (vi vp : Value) (its : Itms) (ts : List ByteArray) : Prop where
  items : w.ownsRow B 59 2 vi its.length (cellsI its)
  pins : w.ownsRow B 9 1 vp ts.length (ts.map Value.string)
  apart : ∀ g, vi.ownBlock = some g → vp.ownBlock ≠ some g
theorem StoreOwn.none (w : World) (B : Nat) : StoreOwn w B (.slice .none 0 0) (.slice .none 0 0) [] [] := ⟨World.ownsRow_nil _ _ _ _, World.ownsRow_nil _ _ _ _, fun g e => by simp [Value.ownBlock] at e⟩
theorem StoreOwn.below {w w' : World} {B : Nat} {vi vp : Value} {its : Itms} {ts : List ByteArray} (h : StoreOwn w B vi vp its ts) (hb : Below w.heap.size w w') : StoreOwn w' B vi vp its ts :=
  ⟨h.items.kept (grown_of_below hb) (by cases hv : vi.ownBlock <;> simp), Below.row hb h.pins, h.apart⟩
theorem StoreOwn.base {w : World} {B B' : Nat} {vi vp : Value} {its : Itms} {ts : List ByteArray} (h : StoreOwn w B vi vp its ts) (hb : B' ≤ B) : StoreOwn w B' vi vp its ts := ⟨ownsRow_base2 h.items hb, ownsRow_base2 h.pins hb, h.apart⟩
theorem StoreOwn.kept {w w' : World} {B k : Nat} {vi vp : Value} {its : Itms} {ts : List ByteArray} (h : StoreOwn w B vi vp its ts) (hg : w.grownBy w' (some k)) (hk : k < B) : StoreOwn w' B vi vp its ts :=
  ⟨h.items.kept hg (.inr fun e => by have := (h.items.lt _ e).1; omega), h.pins.kept hg (.inr fun e => by have := (h.pins.lt _ e).1; omega), h.apart⟩
theorem StoreOwn.rdi {w : World} {B : Nat} {vi vp : Value} {its : Itms} {ts : List ByteArray} (h : StoreOwn w B vi vp its ts) : RdI w vi its := by
  have hr := h.items
  rcases h.items with ⟨_, ⟨rfl, h0⟩ | ⟨g, cap, cur, rfl, hb, hg, _⟩⟩
  · have : its = [] := List.eq_nil_of_length_eq_zero h0
    subst this
    exact ⟨_, 0, rfl, fun i hi => absurd hi (by simp)⟩
  · refine ⟨_, cap, rfl, fun i hi => ⟨g, 0, rfl, (Array.getElem?_eq_some_iff.1 hg).1, ?_, ?_⟩⟩
    · rw [Nat.zero_add, hr.cellAt _ (by omega)]; exact (cellsI_at its i hi).1
    · rw [Nat.zero_add, hr.cellAt _ (by omega)]; exact (cellsI_at its i hi).2
/-- What Get answers. -/
def GetOk (wd room : Int) (its : Itms) (ts : List ByteArray) (s : ByteArray) (now : Int) : Prop := ValidSt wd room its ts ∧ (0 ≤ now ∧ now ≤ 1000000) ∧ ∃ i, i < its.length ∧ sumX wd (itx its i) = s
def GetR (wd room : Int) (its : Itms) (ts : List ByteArray) (s : ByteArray) (now : Int) (x : ByteArray) (wd' room' : Int) (its' : Itms) (ts' : List ByteArray) (b : Bool) : Prop :=
  (x = ⟨#[]⟩ ∧ wd' = 0 ∧ room' = 0 ∧ its' = [] ∧ ts' = [] ∧ b = false ∧ ¬ GetOk wd room its ts s now) ∨
  (b = true ∧ wd' = wd ∧ room' = room ∧ ts' = ts ∧ GetOk wd room its ts s now ∧ ∃ i, i < its.length ∧ sumX wd (itx its i) = s ∧ x = itx its i ∧ its' = its.set i (itx its i, now))
theorem cell_drew (X : World) (p : Addr) : X.drew.cell? p = X.cell? p := rfl
theorem cellsI_set (its : Itms) (i : Nat) (now : Int) (h : i < its.length) : (cellsI its).set (i * 2 + 1) (.int .i64 now) = cellsI (its.set i (itx its i, now)) := by
  induction its generalizing i with
  | nil => simp at h
  | cons p r ih =>
    cases i with
    | zero => simp [cellsI, itx]
    | succ i =>
      have := ih i (by simpa using h)
      have e : (i + 1) * 2 + 1 = i * 2 + 1 + 1 + 1 := by omega
      rw [e]
      simpa [cellsI, itx] using this
end Go.Proofs.YtegomgcekklhaaaGreatDoor
/- slices.Sorted of maps.Keys of the map of items, laid at this program. -/
namespace Go.Proofs.YtegomgcekklhaaaGreatDoor
open Go.RowKit Go.Maps Go.Sort Go.Shelf
def kRen6 : Go.Shelf.Ren := ⟨fun | 6 => 21 | 8 => 42 | 9 => 43 | 11 => 53 | 13 => 55 | 12 => 54 | 23 => 71 | 24 => 72 | 14 => 62 | 15 => 63 | 16 => 64 | 17 => 65 | 18 => 66 | 19 => 67 | 20 => 68 | 21 => 69 | 22 => 70 | 25 => 80 | 26 => 81 | 27 => 82 | 28 => 83 | 29 => 84 | 30 => 85 | 31 => 92 | n => n, fun | 26 => 9 | 28 => 46 | 24 => 23 | 0 => 0 | 3 => 3 | 37 => 89 | 48 => 104 | 50 => 79 | 4 => 4 | 40 => 96 | 39 => 95 | 45 => 101 | 5 => 5 | 9 => 9 | 51 => 116 | 55 => 120 | 57 => 141 | 58 => 142 | 33 => 72 | n => n, fun | n => n⟩
theorem kLays6 : SlLaysZ.n6 Tryz.prog kRen6 where
  mixed := by kernel_rfl
  f6 := ⟨Tryz.f21.name, by kernel_rfl, Tryz.func21.trans (congrArg some (by kernel_rfl))⟩
  f8 := ⟨Tryz.f42.name, by kernel_rfl, Tryz.func42.trans (congrArg some (by kernel_rfl))⟩
  f11 := ⟨Tryz.f53.name, by kernel_rfl, Tryz.func53.trans (congrArg some (by kernel_rfl))⟩
  t0 := by kernel_rfl
  a0 := fun _ => by kernel_rfl
  z0 := fun _ => by kernel_rfl
  v0 := fun _ => by kernel_rfl
  t24 := by kernel_rfl
  a24 := fun _ => by kernel_rfl
  z24 := fun _ => by kernel_rfl
  v24 := fun _ => by kernel_rfl
  t26 := by kernel_rfl
  a26 := fun _ => by kernel_rfl
  z26 := fun _ => by kernel_rfl
  v26 := fun _ => by kernel_rfl
  t28 := by kernel_rfl
  a28 := fun _ => by kernel_rfl
  z28 := fun _ => by kernel_rfl
  v28 := fun _ => by kernel_rfl
  i26 := by kernel_rfl
def kRenM : Go.Shelf.Ren := ⟨fun | 6 => 43 | 8 => 55 | 9 => 54 | 19 => 71 | 20 => 72 | 21 => 62 | 22 => 63 | 23 => 64 | 24 => 65 | 25 => 66 | 26 => 67 | 27 => 68 | 28 => 69 | 29 => 70 | 36 => 80 | 31 => 81 | 32 => 82 | 37 => 83 | 38 => 84 | 39 => 85 | 41 => 92 | n => n, fun | 27 => 23 | 29 => 9 | 3 => 3 | 32 => 89 | 26 => 23 | 0 => 0 | 44 => 104 | 46 => 79 | 4 => 4 | 36 => 96 | 35 => 95 | 41 => 101 | 5 => 5 | 9 => 9 | 53 => 116 | 57 => 120 | 63 => 141 | 64 => 142 | n => n, fun | n => n⟩
theorem kLaysM : SlLaysM.n6 Tryz.prog kRenM where
  mixed := by kernel_rfl
  f6 := ⟨Tryz.f43.name, by kernel_rfl, Tryz.func43.trans (congrArg some (by kernel_rfl))⟩
  f8 := by kernel_rfl
  f9 := ⟨Tryz.f54.name, by kernel_rfl, Tryz.func54.trans (congrArg some (by kernel_rfl))⟩
  f19 := by kernel_rfl
  f20 := by kernel_rfl
  f21 := ⟨Tryz.f62.name, by kernel_rfl, Tryz.func62.trans (congrArg some (by kernel_rfl))⟩
  f22 := ⟨Tryz.f63.name, by kernel_rfl, Tryz.func63.trans (congrArg some (by kernel_rfl))⟩
  f23 := ⟨Tryz.f64.name, by kernel_rfl, Tryz.func64.trans (congrArg some (by kernel_rfl))⟩
  f24 := ⟨Tryz.f65.name, by kernel_rfl, Tryz.func65.trans (congrArg some (by kernel_rfl))⟩
  f25 := ⟨Tryz.f66.name, by kernel_rfl, Tryz.func66.trans (congrArg some (by kernel_rfl))⟩
  f26 := ⟨Tryz.f67.name, by kernel_rfl, Tryz.func67.trans (congrArg some (by kernel_rfl))⟩
  f27 := ⟨Tryz.f68.name, by kernel_rfl, Tryz.func68.trans (congrArg some (by kernel_rfl))⟩
  f28 := ⟨Tryz.f69.name, by kernel_rfl, Tryz.func69.trans (congrArg some (by kernel_rfl))⟩
  f29 := ⟨Tryz.f70.name, by kernel_rfl, Tryz.func70.trans (congrArg some (by kernel_rfl))⟩
  f31 := by kernel_rfl
  f32 := by kernel_rfl
  f36 := ⟨Tryz.f80.name, by kernel_rfl, Tryz.func80.trans (congrArg some (by kernel_rfl))⟩
  f37 := ⟨Tryz.f83.name, by kernel_rfl, Tryz.func83.trans (congrArg some (by kernel_rfl))⟩
  f38 := ⟨Tryz.f84.name, by kernel_rfl, Tryz.func84.trans (congrArg some (by kernel_rfl))⟩
  f39 := ⟨Tryz.f85.name, by kernel_rfl, Tryz.func85.trans (congrArg some (by kernel_rfl))⟩
  f41 := ⟨Tryz.f92.name, by kernel_rfl, Tryz.func92.trans (congrArg some (by kernel_rfl))⟩
  t0 := by kernel_rfl
  a0 := fun _ => by kernel_rfl
  z0 := fun _ => by kernel_rfl
  v0 := fun _ => by kernel_rfl
  t3 := by kernel_rfl
  a3 := fun _ => by kernel_rfl
  z3 := fun _ => by kernel_rfl
  v3 := fun _ => by kernel_rfl
  t4 := by kernel_rfl
  a4 := fun _ => by kernel_rfl
  z4 := fun _ => by kernel_rfl
  v4 := fun _ => by kernel_rfl
  t5 := by kernel_rfl
  a5 := fun _ => by kernel_rfl
  z5 := fun _ => by kernel_rfl
  v5 := fun _ => by kernel_rfl
  t9 := by kernel_rfl
  a9 := fun _ => by kernel_rfl
  z9 := fun _ => by kernel_rfl
  v9 := fun _ => by kernel_rfl
  t26 := by kernel_rfl
  a26 := fun _ => by kernel_rfl
  z26 := fun _ => by kernel_rfl
  v26 := fun _ => by kernel_rfl
  t27 := by kernel_rfl
  a27 := fun _ => by kernel_rfl
  z27 := fun _ => by kernel_rfl
  v27 := fun _ => by kernel_rfl
  t29 := by kernel_rfl
  a29 := fun _ => by kernel_rfl
  z29 := fun _ => by kernel_rfl
  v29 := fun _ => by kernel_rfl
  t32 := by kernel_rfl
  a32 := fun _ => by kernel_rfl
  z32 := fun _ => by kernel_rfl
  v32 := fun _ => by kernel_rfl
  t35 := by kernel_rfl
  a35 := fun _ => by kernel_rfl
  z35 := fun _ => by kernel_rfl
  v35 := fun _ => by kernel_rfl
  t36 := by kernel_rfl
  a36 := fun _ => by kernel_rfl
  z36 := fun _ => by kernel_rfl
  v36 := fun _ => by kernel_rfl
  t41 := by kernel_rfl
  a41 := fun _ => by kernel_rfl
  z41 := fun _ => by kernel_rfl
  v41 := fun _ => by kernel_rfl
  t44 := by kernel_rfl
  a44 := fun _ => by kernel_rfl
  z44 := fun _ => by kernel_rfl
  v44 := fun _ => by kernel_rfl
  t46 := by kernel_rfl
  a46 := fun _ => by kernel_rfl
  z46 := fun _ => by kernel_rfl
  v46 := fun _ => by kernel_rfl
  t53 := by kernel_rfl
  a53 := fun _ => by kernel_rfl
  z53 := fun _ => by kernel_rfl
  v53 := fun _ => by kernel_rfl
  t57 := by kernel_rfl
  a57 := fun _ => by kernel_rfl
  z57 := fun _ => by kernel_rfl
  v57 := fun _ => by kernel_rfl
  t63 := by kernel_rfl
  a63 := fun _ => by kernel_rfl
  z63 := fun _ => by kernel_rfl
  v63 := fun _ => by kernel_rfl
  t64 := by kernel_rfl
  a64 := fun _ => by kernel_rfl
  z64 := fun _ => by kernel_rfl
  v64 := fun _ => by kernel_rfl
theorem kSorts (m : Nat) : AnyZ.SortsIn Tryz.prog kRen6 Fence.wide m :=
  ⟨fun blk off cap ss W hH hblk hsz => callsIn_wide.2 (AnyM.slices_Sort_string kLaysM blk off cap ss W hH hblk hsz),
   fun p cap W => callsIn_wide.2 (AnyM.slices_Sort_string_none kLaysM p cap W)⟩
end Go.Proofs.YtegomgcekklhaaaGreatDoor
/- impl.Get. -/
namespace Go.Proofs.YtegomgcekklhaaaGreatDoor
open Go.RowKit Go.Sort
theorem itx_set (its : Itms) (i : Nat) (now : Int) (h : i < its.length) (j : Nat) : itx (its.set i (itx its i, now)) j = itx its j := by
  by_cases e : i = j
  · subst e; simp [itx, h]
  · simp [itx, List.getElem?_set_ne e]
theorem itu_same (its : Itms) (i : Nat) (now : Int) (h : i < its.length) : itu (its.set i (itx its i, now)) i = now := by simp [itu, h]
theorem itu_other (its : Itms) (i : Nat) (now : Int) (j : Nat) (e : i ≠ j) : itu (its.set i (itx its i, now)) j = itu its j := by simp [itu, List.getElem?_set_ne e]
theorem sumsL_set (n : Int) (its : Itms) (i : Nat) (now : Int) (h : i < its.length) : sumsL n (its.set i (itx its i, now)) = sumsL n its := by
  apply List.ext_getElem?
  intro j
  by_cases hj : j < its.length
  · rw [sumsL_get n _ j (by simpa using hj), sumsL_get n _ j hj, itx_set its i now h j]
  · rw [List.getElem?_eq_none (by rw [sumsL_len]; simp; omega), List.getElem?_eq_none (by rw [sumsL_len]; omega)]
theorem sums_inj {n : Int} {its : Itms} (hN : (sumsL n its).Pairwise (· < ·)) {i j : Nat} (hi : i < its.length) (hj : j < its.length) (h : (sumX n (itx its i)).data.toList = (sumX n (itx its j)).data.toList) : i = j := by
  obtain ⟨_, g1⟩ := List.getElem_of_getElem? (sumsL_get n its i hi)
  obtain ⟨_, g2⟩ := List.getElem_of_getElem? (sumsL_get n its j hj)
  rcases Nat.lt_trichotomy i j with hl | hl | hl
  · have h1 := List.pairwise_iff_getElem.1 hN i j (by rw [sumsL_len]; omega) (by rw [sumsL_len]; omega) hl
    rw [g1, g2, h] at h1
    exact absurd h1 (List.lt_irrefl _)
  · exact hl
  · have h1 := List.pairwise_iff_getElem.1 hN j i (by rw [sumsL_len]; omega) (by rw [sumsL_len]; omega) hl
    rw [g1, g2, h] at h1
    exact absurd h1 (List.lt_irrefl _)
/-- 'v, ok := m[k]' of the map of items. -/
theorem wpList_look_item {ops : Array Oper} {rest : List Oper} {o : Oper} {a : Act} {Q : Exit → Act → World → Prop} (w : World) (hg : o.guard = none) (m x : Operand) (hop : o.op = Op.lookup 69 m x true) (b n : Nat) (D : DataW Unit)
    (hm : a.eval m = .map (some b)) (hown : w.ownsMap Tryz.prog 9 itemElem b n D) (s : ByteArray) (hs : s.size ≤ maxLen) (hx : a.eval x = .string s) (t : ByteArray) (u : Int) (hat : D.atKey (.string s.data.toList) (datI (⟨#[]⟩, 0)) = datI (t, u)) (hh : Bool) (hhas : Maps.has D (.string s.data.toList) = hh)
    (hK : wpList Tryz.prog ops Q rest (a.put o.dst (.tuple #[.agg #[.string t, .int .i64 u], .bool hh])) w) : wpList Tryz.prog ops Q (o :: rest) a w := by
  refine wpList_lookup_own_ok w hg m x 69 hop 9 59 keyed9 Tryz.underlying69 itemElem (zvItem w) (datI (⟨#[]⟩, 0)) [] (itemElem_mk ⟨#[]⟩ 0) b n D hm hown (.string s) _ hx (key9 s hs) ?_
  intro v ps hv
  rw [hat] at hv
  obtain rfl := itemElem_inv hv
  rw [hhas]
  exact hK
end Go.Proofs.YtegomgcekklhaaaGreatDoor
/- What pins need. -/
namespace Go.Proofs.YtegomgcekklhaaaGreatDoor
open Go.RowKit
/-- The text of the item with a sum, and the empty one where there is none. -/
def Under (wd : Int) (its : Itms) (s t : ByteArray) : Prop := (∃ i, i < its.length ∧ sumX wd (itx its i) = s ∧ t = itx its i) ∨ ((∀ i, i < its.length → sumX wd (itx its i) ≠ s) ∧ t = ⟨#[]⟩)
/-- The list that the item with a sum is read as. -/
def UL (wd : Int) (its : Itms) (s : ByteArray) (n : Int) (ss : List ByteArray) (ok : Bool) : Prop := ∃ t, Under wd its s t ∧ ReadR t wd n ss ok
theorem Under.uniq {wd : Int} {its : Itms} {s t t' : ByteArray} (hN : (sumsL wd its).Pairwise (· < ·)) (h : Under wd its s t) (k : Under wd its s t') : t = t' := by
  rcases h with ⟨i, hi, e, rfl⟩ | ⟨hn, rfl⟩ <;> rcases k with ⟨j, hj, e', rfl⟩ | ⟨kn, rfl⟩
  · have := sums_inj hN hi hj (by rw [e, e'])
    subst this
    rfl
  · exact absurd e (kn i hi)
  · exact absurd e' (hn j hj)
  · rfl
theorem UL.uniq {wd : Int} {its : Itms} {s : ByteArray} {n n' : Int} {ss ss' : List ByteArray} {ok ok' : Bool} (hN : (sumsL wd its).Pairwise (· < ·)) (h : UL wd its s n ss ok) (k : UL wd its s n' ss' ok') : n = n' ∧ ss = ss' ∧ ok = ok' := by
  obtain ⟨t, ht, hr⟩ := h
  obtain ⟨t', kt, kr⟩ := k
  obtain rfl := ht.uniq hN kt
  exact hr.uniq kr
theorem read_none (wd : Int) : ReadR ⟨#[]⟩ wd 0 [] false := .inr ⟨rfl, rfl, rfl, noForm_size (.inl (by show (0 : Nat) < 6; omega))⟩
theorem ReadR.few {s : ByteArray} {m n : Int} {ss : List ByteArray} {ok : Bool} (h : ReadR s m n ss ok) : ss.length ≤ 375 ∧ (ok = false → ss = []) ∧ ∀ x ∈ ss, (x.size : Int) = m ∧ isW m = true := by
  rcases h with ⟨e, h, _⟩ | ⟨_, _, rfl, _⟩
  · have := okL_parts h
    exact ⟨this.2.2.1, fun h => (by rw [e] at h; cases h), fun x hx => ⟨this.2.2.2 x hx, this.1⟩⟩
  · exact ⟨by simp, fun _ => rfl, fun x hx => by cases hx⟩
theorem UL.few {wd : Int} {its : Itms} {s : ByteArray} {n : Int} {ss : List ByteArray} {ok : Bool} (h : UL wd its s n ss ok) : ss.length ≤ 375 ∧ (ok = false → ss = []) ∧ ∀ x ∈ ss, (x.size : Int) = wd ∧ isW wd = true := by
  obtain ⟨t, _, hr⟩ := h
  exact hr.few
def NeedX (wd : Int) (its : Itms) (p x : ByteArray) : Prop := x = p ∨ ∃ n ss ok, UL wd its p n ss ok ∧ x ∈ ss
def NeedTo (wd : Int) (its : Itms) (ts : List ByteArray) (k : Nat) (x : ByteArray) : Prop := ∃ j, j < k ∧ NeedX wd its (tv ts j) x
/-- What Needed answers of a valid store. -/
structure NeedR (wd : Int) (its : Itms) (ts : List ByteArray) (k : Nat) (out : List ByteArray) : Prop where
  asc : Asc out
  mem : ∀ x, x ∈ out ↔ NeedTo wd its ts k x
theorem NeedX.of_list {wd : Int} {its : Itms} {p x : ByteArray} {n : Int} {ss : List ByteArray} {ok : Bool} (hN : (sumsL wd its).Pairwise (· < ·)) (h : UL wd its p n ss ok) : NeedX wd its p x ↔ x = p ∨ x ∈ ss := by
  constructor
  · rintro (e | ⟨n', ss', ok', h', hx⟩)
    · exact .inl e
    · obtain ⟨_, rfl, _⟩ := h.uniq hN h'
      exact .inr hx
  · rintro (e | hx)
    · exact .inl e
    · exact .inr ⟨n, ss, ok, h, hx⟩
theorem NeedTo.succ {wd : Int} {its : Itms} {ts : List ByteArray} {k : Nat} {x : ByteArray} : NeedTo wd its ts (k + 1) x ↔ NeedTo wd its ts k x ∨ NeedX wd its (tv ts k) x := by
  constructor
  · rintro ⟨j, hj, h⟩
    rcases Nat.lt_or_eq_of_le (Nat.le_of_lt_succ hj) with h1 | h1
    · exact .inl ⟨j, h1, h⟩
    · subst h1
      exact .inr h
  · rintro (⟨j, hj, h⟩ | h)
    · exact ⟨j, by omega, h⟩
    · exact ⟨k, by omega, h⟩
theorem asc_lists {ts : List ByteArray} (h : Asc ts) : (ts.map fun b => b.data.toList).Pairwise (· < ·) := List.Pairwise.map (f := fun b : ByteArray => b.data.toList) (S := (· < ·)) (fun _ _ hab => tlt_lt hab) h
theorem mem_lists {ts : List ByteArray} {x : ByteArray} : x.data.toList ∈ (ts.map fun b => b.data.toList) ↔ x ∈ ts := by
  rw [List.mem_map]
  constructor
  · rintro ⟨y, hy, e⟩
    obtain rfl : y = x := ByteArray.ext (by simpa using e)
    exact hy
  · exact fun h => ⟨x, h, rfl⟩
theorem asc_eq : ∀ {a b : List ByteArray}, Asc a → Asc b → (∀ x, x ∈ a ↔ x ∈ b) → a = b
  | [], [], _, _, _ => rfl
  | [], y :: b, _, _, h => by have := (h y).2 (by simp); cases this
  | x :: a, [], _, _, h => by have := (h x).1 (by simp); cases this
  | x :: a, y :: b, ha, hb, h => by
    have h1 := List.pairwise_cons.1 ha
    have h2 := List.pairwise_cons.1 hb
    have e : x = y := by
      rcases List.mem_cons.1 ((h x).1 (by simp)) with e | hx
      · exact e
      · rcases List.mem_cons.1 ((h y).2 (by simp)) with e | hy
        · exact e.symm
        · have k1 := h2.1 x hx
          have k2 := h1.1 y hy
          have := tlt_trans k1 k2
          rw [tlt_irrefl] at this
          cases this
    subst e
    have e2 : a = b := asc_eq h1.2 h2.2 (fun z => by
      constructor
      · intro hz
        rcases List.mem_cons.1 ((h z).1 (List.mem_cons_of_mem _ hz)) with e | hz'
        · subst e
          have := h1.1 z hz
          rw [tlt_irrefl] at this
          cases this
        · exact hz'
      · intro hz
        rcases List.mem_cons.1 ((h z).2 (List.mem_cons_of_mem _ hz)) with e | hz'
        · subst e
          have := h2.1 z hz
          rw [tlt_irrefl] at this
          cases this
        · exact hz')
    rw [e2]
theorem NeedR.uniq {wd : Int} {its : Itms} {ts : List ByteArray} {k : Nat} {a b : List ByteArray} (h : NeedR wd its ts k a) (g : NeedR wd its ts k b) : a = b := asc_eq h.asc g.asc fun x => (h.mem x).trans (g.mem x).symm
/-- One more text in its place. -/
def putT (s : ByteArray) (ts : List ByteArray) : List ByteArray := if cutN s ts < ts.length ∧ tv ts (cutN s ts) = s then ts else ts.take (cutN s ts) ++ s :: ts.drop (cutN s ts)
theorem putT_mem {s : ByteArray} {ts : List ByteArray} (x : ByteArray) : x ∈ putT s ts ↔ x = s ∨ x ∈ ts := by
  unfold putT
  split
  · next h =>
    constructor
    · exact .inr
    · rintro (e | hx)
      · subst e
        have := h.2
        unfold tv at this
        rw [List.getD_eq_getElem?_getD, List.getElem?_eq_getElem h.1] at this
        have h3 : ts[cutN x ts]'h.1 = x := by simpa using this
        exact h3 ▸ List.getElem_mem h.1
      · exact hx
  · have e : ts = ts.take (cutN s ts) ++ ts.drop (cutN s ts) := (List.take_append_drop _ _).symm
    constructor
    · intro hx
      rcases List.mem_append.1 hx with h1 | h1
      · exact .inr (List.mem_of_mem_take h1)
      · rcases List.mem_cons.1 h1 with h2 | h2
        · exact .inl h2
        · exact .inr (List.mem_of_mem_drop h2)
    · rintro (h1 | h1)
      · subst h1
        simp
      · rw [e] at h1
        rcases List.mem_append.1 h1 with h2 | h2
        · exact List.mem_append_left _ h2
        · exact List.mem_append_right _ (List.mem_cons_of_mem _ h2)
theorem putT_asc {s : ByteArray} {ts : List ByteArray} (h : Asc ts) : Asc (putT s ts) := by
  unfold putT
  split
  · exact h
  · next hn =>
    have ht : ∀ x ∈ ts.take (cutN s ts), tlt x s = true := by
      rw [← cut_take s ts h]
      intro x hx
      exact (List.mem_filter.1 hx).2
    have hd : ∀ x ∈ ts.drop (cutN s ts), tlt s x = true := by
      intro x hx
      have h1 : tlt x s = false := by
        have : x ∈ ts.filter (fun t => !tlt t s) := by rw [cut_drop s ts h]; exact hx
        simpa using (List.mem_filter.1 this).2
      by_cases hx2 : tlt s x = true
      · exact hx2
      · exfalso
        have e : x = s := text_eq (bl_total _ _ h1 (Bool.eq_false_iff.2 hx2))
        subst e
        obtain ⟨i, hi, e2⟩ := List.mem_iff_getElem.1 hx
        rw [List.getElem_drop] at e2
        rw [List.length_drop] at hi
        by_cases h0 : i = 0
        · subst h0
          refine hn ⟨by omega, ?_⟩
          unfold tv
          rw [List.getD_eq_getElem?_getD, List.getElem?_eq_getElem (by omega)]
          simpa using e2
        · have h3 := List.pairwise_iff_getElem.1 h (cutN x ts) (cutN x ts + i) (by omega) (by omega) (by omega)
          rw [e2] at h3
          have h4 := cut_above x ts h (cutN x ts) (Nat.le_refl _) (by omega)
          unfold tv at h4
          rw [List.getD_eq_getElem?_getD, List.getElem?_eq_getElem (by omega)] at h4
          simp only [Option.getD_some] at h4
          rw [h3] at h4
          cases h4
    refine List.pairwise_append.2 ⟨asc_take h _, List.pairwise_cons.2 ⟨hd, asc_drop h _⟩, fun a ha b hb => ?_⟩
    rcases List.mem_cons.1 hb with e | hb
    · subst e
      exact ht a ha
    · exact tlt_trans (ht a ha) (hd b hb)
theorem putT_len (s : ByteArray) (ts : List ByteArray) : (putT s ts).length ≤ ts.length + 1 := by
  unfold putT
  split
  · omega
  · have := cutN_le s ts
    simp
    omega
end Go.Proofs.YtegomgcekklhaaaGreatDoor
