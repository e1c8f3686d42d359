import Derived.Test.YtkjdabnglcabiaaGreatDoorDrawNow
import Derived.Test.YtkjdabnglcabiaaGreatDoorManyOne
import Derived.Test.YtkjdabnglcabiaaGreatDoorNeedSpec
/- A store that is being spoilt, in memory. -/
namespace Go.Proofs.YtkjdabnglcabiaaGreatDoor
open Go.RowKit
/-- Rows of other things are other rows. -/
theorem row_parted {w : World} {B B' s s' n n' : Nat} {e e' : TypeId} {v v' : Value} {xs xs' : List Value} (h : w.ownsRow B e s v n xs) (k : w.ownsRow B' e' s' v' n' xs') (hne : e ≠ e') {g : Nat} (h1 : v.ownBlock = some g) (h2 : v'.ownBlock = some g) : False := by
 rcases h with ⟨_, ⟨rfl, _⟩ | ⟨g1, cap, cur, rfl, _, hg, _⟩⟩
 ·simp [Value.ownBlock] at h1
 ·rcases k with ⟨_, ⟨rfl, _⟩ | ⟨g2, cap', cur', rfl, _, hg', _⟩⟩
  ·simp [Value.ownBlock] at h2
  ·obtain rfl : g1 = g := Option.some.inj h1
   obtain rfl : g2 = g1 := Option.some.inj h2
   rw [hg] at hg'
   cases hg'
   exact hne rfl
/-- What lies in memory while l4Spoil runs: the argument in a variable, the copy in a variable of its own, the result's variable. -/
structure SpEnd (w0 : World) (rb : Nat) (a : Option Addr) (nn cap : Nat) (bs : List Int) (cs : Array Value) (p ob : Nat) (W : World) (wd room : Int) (vi vp : Value) (its : Itms) (ts : List ByteArray) : Prop where
 rd : Rd W rb a nn cap bs p
 arg : Blk W w0.heap.size 26 cs
 res : Blk W (w0.heap.size + 1) 26 #[.int .i64 0, .int .i64 0, .slice none 0 0, .slice none 0 0]
 box : SBox W (w0.heap.size + 2) ob wd room vi vp its ts
 small : SmallSt its ts
 grown : w0.grownBy W (some rb)
 lt : rb < w0.heap.size
 above : w0.heap.size + 1 < ob
section
variable {w0 W W' : World} {rb : Nat} {a : Option Addr} {nn cap : Nat} {bs : List Int} {cs : Array Value} {p q ob : Nat} {wd room : Int} {vi vp : Value} {its : Itms} {ts : List ByteArray}
theorem SpEnd.pick (h : SpEnd w0 rb a nn cap bs cs p ob W wd room vi vp its ts) (hg : W.grownBy W' (some rb)) (hr : Rd W' rb a nn cap bs q) : SpEnd w0 rb a nn cap bs cs q ob W' wd room vi vp its ts :=
 have h1 := h.lt
 have h2 := h.above
 ⟨hr, h.arg.kept hg (fun e => by have := Option.some.inj e; omega), h.res.kept hg (fun e => by have := Option.some.inj e; omega), h.box.low hg (by omega) (by omega), h.small, grown_pick h.grown hg, h.lt, h.above⟩
theorem SpEnd.below (h : SpEnd w0 rb a nn cap bs cs p ob W wd room vi vp its ts) (hb : Below W.heap.size W W') : SpEnd w0 rb a nn cap bs cs p ob W' wd room vi vp its ts :=
 have h1 := h.rd.lt
 ⟨h.rd.keep (hb.mono (by omega)), h.arg.below hb, h.res.below hb, h.box.below hb, h.small, grown_pick h.grown (grown_below' hb), h.lt, h.above⟩
theorem SpEnd.drew (h : SpEnd w0 rb a nn cap bs cs p ob W wd room vi vp its ts) : SpEnd w0 rb a nn cap bs cs p ob W.drew wd room vi vp its ts := h.below (below_drewN (Below.refl _ _) 1)
theorem SpEnd.alloc (h : SpEnd w0 rb a nn cap bs cs p ob W wd room vi vp its ts) (o : Obj) : SpEnd w0 rb a nn cap bs cs p ob (W.alloc o) wd room vi vp its ts := h.below ((Below.refl _ _).alloc (Nat.le_refl _) o)
/-- The variable written. -/
theorem SpEnd.put {wd' room' : Int} {vi' vp' : Value} {its' : Itms} {ts' : List ByteArray} (h : SpEnd w0 rb a nn cap bs cs p ob W wd room vi vp its ts) (hg : W.grownBy W' (some ob)) (hb : Blk W' ob 26 #[.int .i64 wd', .int .i64 room', vi', vp']) (hx : StoreOwn W (w0.heap.size + 2) vi' vp' its' ts') (hs : SmallSt its' ts') : SpEnd w0 rb a nn cap bs cs p ob W' wd' room' vi' vp' its' ts' :=
 have h1 := h.lt
 have h2 := h.above
 ⟨h.rd.keep ((grown_below hg h.box.blk.lt).mono (by omega)), h.arg.kept hg (fun e => by have := Option.some.inj e; omega), h.res.kept hg (fun e => by have := Option.some.inj e; omega), ⟨hb, own_other hx h.box.blk hg⟩, hs, grownBy_trans h.grown hg (fun g e => .inr (by cases e; omega)), h.lt, h.above⟩
theorem SpEnd.setWidth (h : SpEnd w0 rb a nn cap bs cs p ob W wd room vi vp its ts) (z : Int) : SpEnd w0 rb a nn cap bs cs p ob (W.setCell ⟨ob, 0, none⟩ (.int .i64 z)) z room vi vp its ts :=
 h.put (grownBy_setCellAt W ob 0 (.int .i64 z)) (h.box.blk.set 0 (.int .i64 z)) h.box.own h.small
theorem SpEnd.setRoom (h : SpEnd w0 rb a nn cap bs cs p ob W wd room vi vp its ts) (z : Int) : SpEnd w0 rb a nn cap bs cs p ob (W.setCell ⟨ob, 1, none⟩ (.int .i64 z)) wd z vi vp its ts :=
 h.put (grownBy_setCellAt W ob 1 (.int .i64 z)) (h.box.blk.set 1 (.int .i64 z)) h.box.own h.small
/-- A row of its own written into. -/
theorem SpEnd.row {k : Nat} {its' : Itms} {ts' : List ByteArray} (h : SpEnd w0 rb a nn cap bs cs p ob W wd room vi vp its ts) (hg : W.grownBy W' (some k)) (hk : w0.heap.size + 1 < k) (hko : k ≠ ob) (hx : StoreOwn W' (w0.heap.size + 2) vi vp its' ts') (hs : SmallSt its' ts') (hlt : k < W.heap.size) : SpEnd w0 rb a nn cap bs cs p ob W' wd room vi vp its' ts' :=
 have h1 := h.lt
 ⟨h.rd.keep ((grown_below hg hlt).mono (by omega)), h.arg.kept hg (fun e => by have := Option.some.inj e; omega), h.res.kept hg (fun e => by have := Option.some.inj e; omega), ⟨h.box.blk.kept hg (fun e => hko (Option.some.inj e).symm), hx⟩, hs, grownBy_trans h.grown hg (fun g e => .inr (by cases e; omega)), h.lt, h.above⟩
/-- Behind an append, ahead of the store of what it answers. -/
theorem SpEnd.grow {r : Option Nat} (h : SpEnd w0 rb a nn cap bs cs p ob W wd room vi vp its ts) (hg : W.grownBy W' r) (hr : ∀ g, r = some g → w0.heap.size + 2 ≤ g ∧ g ≠ ob) :
  Rd W' rb a nn cap bs p ∧ Blk W' w0.heap.size 26 cs ∧ Blk W' (w0.heap.size + 1) 26 #[.int .i64 0, .int .i64 0, .slice none 0 0, .slice none 0 0] ∧ Blk W' ob 26 #[.int .i64 wd, .int .i64 room, vi, vp] ∧ w0.grownBy W' (some rb) := by
 have h1 := h.lt
 have h3 := h.res.lt
 have hb : Below (w0.heap.size + 2) W W' := (Below.refl _ W).grown hg (by omega) (fun g e => (hr g e).1)
 refine ⟨h.rd.keep (hb.mono (by omega)), h.arg.belowAt hb (by omega), h.res.belowAt hb (by omega), h.box.blk.kept hg (fun e => ?_), grownBy_trans h.grown hg (fun g e => .inr (by have := (hr g e).1; omega))⟩
 cases r with
 | none => cases e
 | some g => exact (hr g rfl).2 (Option.some.inj e).symm
theorem SpEnd.items {r : Option Nat} {vi' : Value} {its' : Itms} (h : SpEnd w0 rb a nn cap bs cs p ob W wd room vi vp its ts) (hg : W.grownBy W' r) (hr : ∀ g, r = some g → vi.ownBlock = some g) (ho : W'.ownsRow (w0.heap.size + 2) 59 2 vi' its'.length (cellsI its')) (hs : SmallSt its' ts) : SpEnd w0 rb a nn cap bs cs p ob (W'.setCell ⟨ob, 2, none⟩ vi') wd room vi' vp its' ts := by
 obtain ⟨g1, g2, g3, g4, g5⟩ := h.grow hg (fun g e => ⟨(h.box.own.items.lt g (hr g e)).1, fun e2 => row_no_blk h.box.own.items h.box.blk (by decide) (e2 ▸ hr g e)⟩)
 have hp : W'.ownsRow (w0.heap.size + 2) 9 1 vp ts.length (ts.map Value.string) := by
  refine h.box.own.pins.kept hg ?_
  cases hv : vp.ownBlock with
  | none => exact .inl rfl
  | some g => exact .inr fun e => h.box.own.apart g (hr g e.symm) hv
 have hx : StoreOwn W' (w0.heap.size + 2) vi' vp its' ts := ⟨ho, hp, fun g e1 e2 => row_parted ho hp (by decide) e1 e2⟩
 have hG := grownBy_setCellAt W' ob 2 vi'
 have k1 := h.lt
 have k2 := h.above
 exact ⟨g1.keep ((grown_below hG g4.lt).mono (by omega)), g2.kept hG (fun e => by have := Option.some.inj e; omega), g3.kept hG (fun e => by have := Option.some.inj e; omega), ⟨g4.set 2 vi', own_other hx g4 hG⟩, hs, grownBy_trans g5 hG (fun g e => .inr (by cases e; omega)), h.lt, h.above⟩
theorem SpEnd.pins {r : Option Nat} {vp' : Value} {ts' : List ByteArray} (h : SpEnd w0 rb a nn cap bs cs p ob W wd room vi vp its ts) (hg : W.grownBy W' r) (hr : ∀ g, r = some g → vp.ownBlock = some g) (ho : W'.ownsRow (w0.heap.size + 2) 9 1 vp' ts'.length (ts'.map Value.string)) (hs : SmallSt its ts') : SpEnd w0 rb a nn cap bs cs p ob (W'.setCell ⟨ob, 3, none⟩ vp') wd room vi vp' its ts' := by
 obtain ⟨g1, g2, g3, g4, g5⟩ := h.grow hg (fun g e => ⟨(h.box.own.pins.lt g (hr g e)).1, fun e2 => row_no_blk h.box.own.pins h.box.blk (by decide) (e2 ▸ hr g e)⟩)
 have hi : W'.ownsRow (w0.heap.size + 2) 59 2 vi its.length (cellsI its) := by
  refine h.box.own.items.kept hg ?_
  cases hv : vi.ownBlock with
  | none => exact .inl rfl
  | some g => exact .inr fun e => h.box.own.apart g hv (hr g e.symm)
 have hx : StoreOwn W' (w0.heap.size + 2) vi vp' its ts' := ⟨hi, ho, fun g e1 e2 => row_parted hi ho (by decide) e1 e2⟩
 have hG := grownBy_setCellAt W' ob 3 vp'
 have k1 := h.lt
 have k2 := h.above
 exact ⟨g1.keep ((grown_below hG g4.lt).mono (by omega)), g2.kept hG (fun e => by have := Option.some.inj e; omega), g3.kept hG (fun e => by have := Option.some.inj e; omega), ⟨g4.set 3 vp', own_other hx g4 hG⟩, hs, grownBy_trans g5 hG (fun g e => .inr (by cases e; omega)), h.lt, h.above⟩
end
/-- So many of different bytes are different. -/
theorem AllB.ne {c d : UInt8} {t u : ByteArray} (h : AllB c t) (k : AllB d u) (hcd : c ≠ d) (hs : 1 ≤ t.size) : t ≠ u := by
 rintro rfl
 have hl : 0 < t.data.toList.length := by rw [Array.length_toList]; exact hs
 have hm := List.getElem_mem hl
 exact hcd ((h _ hm).symm.trans (k _ hm))
end Go.Proofs.YtkjdabnglcabiaaGreatDoor
/- What l4Spoil makes of a store: bounds; how many pins there are. -/
namespace Go.Proofs.YtkjdabnglcabiaaGreatDoor
open Go.RowKit
theorem small_of {its : Itms} {ts : List ByteArray} (hi : its.length ≤ 1048576) (hp : ts.length ≤ 1048576) (h1 : ∀ p ∈ its, p.1.size ≤ 1048576) (h2 : ∀ t ∈ ts, t.size ≤ 1048576) : SmallSt its ts where
 li := hi
 lp := hp
 si := fun i => by
  by_cases h : i < its.length
  ·rw [itx_get its i h]; exact h1 _ (List.getElem_mem h)
  ·simp [itx, show its.length ≤ i by omega]
 sp := fun i => by
  by_cases h : i < ts.length
  ·simp only [tv, h, List.getD_eq_getElem?_getD, List.getElem?_eq_getElem, Option.getD_some]; exact h2 _ (List.getElem_mem h)
  ·simp [tv, show ts.length ≤ i by omega]
theorem SmallSt.mi {its : Itms} {ts : List ByteArray} (h : SmallSt its ts) : ∀ p ∈ its, p.1.size ≤ 1048576 := fun p hp => by
 obtain ⟨i, hi, rfl⟩ := List.getElem_of_mem hp
 rw [← itx_get its i hi]; exact h.si i
theorem SmallSt.mp {its : Itms} {ts : List ByteArray} (h : SmallSt its ts) : ∀ t ∈ ts, t.size ≤ 1048576 := fun t ht => by
 obtain ⟨i, hi, rfl⟩ := List.getElem_of_mem ht
 have := h.sp i
 simpa [tv, hi] using this
theorem SmallSt.item {its : Itms} {ts : List ByteArray} (h : SmallSt its ts) (hl : its.length ≤ 1000) (t : ByteArray) (u : Int) (ht : t.size ≤ 1048576) : SmallSt (its ++ [(t, u)]) ts :=
 small_of (by simp; omega) h.lp (fun p hp => by rcases List.mem_append.1 hp with hp | hp; exact h.mi p hp; obtain rfl := List.mem_singleton.1 hp; exact ht) h.mp
theorem SmallSt.pin {its : Itms} {ts : List ByteArray} (h : SmallSt its ts) (hl : ts.length ≤ 1000) (t : ByteArray) (ht : t.size ≤ 1048576) : SmallSt its (ts ++ [t]) :=
 small_of h.li (by simp; omega) h.mi (fun p hp => by rcases List.mem_append.1 hp with hp | hp; exact h.mp p hp; obtain rfl := List.mem_singleton.1 hp; exact ht)
theorem SmallSt.set {its : Itms} {ts : List ByteArray} (h : SmallSt its ts) (i : Nat) (t : ByteArray) (u : Int) (ht : t.size ≤ 1048576) : SmallSt (its.set i (t, u)) ts :=
 small_of (by simp; exact h.li) h.lp (fun p hp => by rcases List.mem_or_eq_of_mem_set hp with hp | rfl; exact h.mi p hp; exact ht) h.mp
theorem SmallSt.add {its : Itms} {ts : List ByteArray} (h : SmallSt its ts) (hl : ts.length ≤ 1000) (t : ByteArray) (ht : t.size ≤ 1048576) : SmallSt its (putT t ts) :=
 small_of h.li (by have := putT_len t ts; omega) h.mi (fun p hp => by rcases (putT_mem p).1 hp with rfl | hp; exact ht; exact h.mp p hp)
/-- Texts that are all different, all of them in a row: the row is no shorter. -/
theorem nodup_le : ∀ (us ts : List ByteArray), us.Pairwise (· ≠ ·) → (∀ u ∈ us, u ∈ ts) → us.length ≤ ts.length
 | [], _, _, _ => Nat.zero_le _
 | u :: us, ts, hn, hs => by
  rw [List.pairwise_cons] at hn
  obtain ⟨s, t, rfl⟩ := List.append_of_mem (hs u List.mem_cons_self)
  have ih := nodup_le us (s ++ t) hn.2 (fun x hx => by
   have h1 := hs x (List.mem_cons_of_mem _ hx)
   have h2 := hn.1 x hx
   rw [List.mem_append, List.mem_cons] at h1
   rw [List.mem_append]
   rcases h1 with h1 | rfl | h1
   ·exact .inl h1
   ·exact absurd rfl h2
   ·exact .inr h1)
  simp only [List.length_append, List.length_cons] at ih ⊢
  omega
/-- So many texts of one byte each have been put in. -/
def Bytes0 (wd : Nat) (i : Nat) (ts : List ByteArray) : Prop := ∃ us : List ByteArray, us.length = i ∧ us.Pairwise (· ≠ ·) ∧ (∀ u ∈ us, u ∈ ts) ∧ ∀ u ∈ us, ∃ j, j < i ∧ u.size = wd ∧ AllB (UInt8.ofNat j) u
theorem Bytes0.zero (wd : Nat) (ts : List ByteArray) : Bytes0 wd 0 ts := ⟨[], rfl, List.Pairwise.nil, fun _ h => (by cases h), fun _ h => (by cases h)⟩
theorem Bytes0.le {wd i : Nat} {ts : List ByteArray} (h : Bytes0 wd i ts) : i ≤ ts.length := by
 obtain ⟨us, rfl, h1, h2, _⟩ := h
 exact nodup_le us ts h1 h2
theorem Bytes0.step {wd i : Nat} {ts : List ByteArray} {t : ByteArray} (h : Bytes0 wd i ts) (hw : 1 ≤ wd) (hi : i < 200) (ht : t.size = wd) (ha : AllB (UInt8.ofNat i) t) : Bytes0 wd (i + 1) (putT t ts) := by
 obtain ⟨us, h0, h1, h2, h3⟩ := h
 refine ⟨t :: us, by rw [List.length_cons, h0], List.pairwise_cons.2 ⟨fun u hu => ?_, h1⟩, fun u hu => ?_, fun u hu => ?_⟩
 ·obtain ⟨j, hj, hs, hb⟩ := h3 u hu
  refine ha.ne hb (fun e => ?_) (by omega)
  have := congrArg UInt8.toNat e
  simp [UInt8.toNat_ofNat'] at this
  omega
 ·rw [putT_mem]
  exact (List.mem_cons.1 hu).imp id (h2 u)
 ·rcases List.mem_cons.1 hu with rfl | hu
  ·exact ⟨i, by omega, ht, ha⟩
  ·obtain ⟨j, hj, hs⟩ := h3 u hu
   exact ⟨j, by omega, hs⟩
theorem cellsI_append (a b : Itms) : cellsI (a ++ b) = cellsI a ++ cellsI b := by unfold cellsI; rw [List.flatMap_append]
theorem rowI_app {w : World} {B : Nat} {v : Value} {its : Itms} {t : ByteArray} {u : Int} (h : w.ownsRow B 59 2 v (its.length + 1) (cellsI its ++ [.string t, .int .i64 u])) : w.ownsRow B 59 2 v (its ++ [(t, u)]).length (cellsI (its ++ [(t, u)])) := by
 rw [cellsI_append, List.length_append]; exact h
theorem rowT_app {w : World} {B : Nat} {v : Value} {ts : List ByteArray} {t : ByteArray} (h : w.ownsRow B 9 1 v (ts.length + 1) (ts.map Value.string ++ [.string t])) : w.ownsRow B 9 1 v (ts ++ [t]).length ((ts ++ [t]).map Value.string) := by
 rw [List.map_append, List.length_append]; exact h
/-- A literal row of three texts. -/
theorem text_new (w : World) (a b c : ByteArray) {x : Nat} (hx : x < 3) : ∃ u, (w.alloc (.cells #[.string a, .string b, .string c] 9)).cell? ⟨w.heap.size, x, none⟩ = some (.string u) ∧ (u = a ∨ u = b ∨ u = c) := by
 have h := Blk.new w 9 #[.string a, .string b, .string c]
 obtain rfl | rfl | rfl : x = 0 ∨ x = 1 ∨ x = 2 := by omega
 ·exact ⟨a, h.cell 0, .inl rfl⟩
 ·exact ⟨b, h.cell 1, .inr (.inl rfl)⟩
 ·exact ⟨c, h.cell 2, .inr (.inr rfl)⟩
theorem text_among (w w4 : World) (a b c : ByteArray) {rb x : Nat} (hg : (w.alloc (.cells #[.string a, .string b, .string c] 9)).grownBy w4 (some rb)) (hr : rb < w.heap.size) (hx : x < 3) : ∃ u, w4.cell? ⟨w.heap.size, x, none⟩ = some (.string u) ∧ (u = a ∨ u = b ∨ u = c) := by
 have h := (Blk.new w 9 #[.string a, .string b, .string c]).kept hg (fun e => by have := Option.some.inj e; omega)
 obtain rfl | rfl | rfl : x = 0 ∨ x = 1 ∨ x = 2 := by omega
 ·exact ⟨a, h.cell 0, .inl rfl⟩
 ·exact ⟨b, h.cell 1, .inr (.inl rfl)⟩
 ·exact ⟨c, h.cell 2, .inr (.inr rfl)⟩
theorem three_new (w : World) (a b c : Int) {x : Nat} (hx : x < 3) : ∃ z : Int, (w.alloc (.cells #[.int .i64 a, .int .i64 b, .int .i64 c] 3)).cell? ⟨w.heap.size, x, none⟩ = some (.int .i64 z) := by
 have h := Blk.new w 3 #[.int .i64 a, .int .i64 b, .int .i64 c]
 obtain rfl | rfl | rfl : x = 0 ∨ x = 1 ∨ x = 2 := by omega
 ·exact ⟨a, h.cell 0⟩
 ·exact ⟨b, h.cell 1⟩
 ·exact ⟨c, h.cell 2⟩
/-- What spec.l4Add leaves, as a row above B. -/
theorem add_own {w w' : World} {v v' : Value} {B : Nat} {s : ByteArray} {ts : List ByteArray} (hrow : w.ownsRow B 9 1 v ts.length (ts.map Value.string)) (hb : Below w.heap.size w w') (hB : B ≤ w.heap.size)
  (h : cutN s ts < ts.length ∧ tv ts (cutN s ts) = s ∧ v' = v ∨ ¬ (cutN s ts < ts.length ∧ tv ts (cutN s ts) = s) ∧ w'.ownsRow w.heap.size 9 1 v' (ts.length + 1) ((ts.take (cutN s ts) ++ s :: ts.drop (cutN s ts)).map Value.string)) :
  w'.ownsRow B 9 1 v' (putT s ts).length ((putT s ts).map Value.string) := by
 rcases h with ⟨h1, h2, rfl⟩ | ⟨hn, ho⟩
 ·unfold putT
  rw [if_pos ⟨h1, h2⟩]
  exact Below.row hb hrow
 ·unfold putT
  rw [if_neg hn]
  have e : (ts.take (cutN s ts) ++ s :: ts.drop (cutN s ts)).length = ts.length + 1 := by have := cutN_le s ts; simp; omega
  rw [e]
  exact ownsRow_base2 ho hB
end Go.Proofs.YtkjdabnglcabiaaGreatDoor
