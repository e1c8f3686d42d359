import Derived.Test.YtkjdabnglcabiaaGreatDoorShelfStore
import Derived.Laws.AppendOwnNone
import Derived.Test.YtkjdabnglcabiaaGreatDoorShort
import Derived.Shelf.SlIter.Nil
import Derived.Shelf.SortM.Plain
import Derived.Shelf.SortM.SortNone
import Derived.Test.YtkjdabnglcabiaaGreatDoorReadTurned
import Derived.Test.YtkjdabnglcabiaaGreatDoorHeapMath
/- spec.l4Copy: a store in rows of its own. -/
namespace Go.Proofs.YtkjdabnglcabiaaGreatDoor
open Go.RowKit
theorem Blk.belowAt {W W' : World} {b B : Nat} {T : TypeId} {cs : Array Value} (h : Blk W b T cs) (hb : Below B W W') (hlt : b < B) : Blk W' b T cs := (hb.block b hlt).trans h
theorem cellsI_one (its : Itms) : ∀ u ∈ cellsI its, u.oneCell' = true := by
 intro u hu
 unfold cellsI at hu
 rw [List.mem_flatMap] at hu
 obtain ⟨p, _, hp⟩ := hu
 simp only [List.mem_cons, List.not_mem_nil, or_false] at hp
 rcases hp with rfl | rfl <;> rfl
/-- append of a row of texts onto an own row of none. -/
theorem append_texts {ops : Array Oper} {rest : List Oper} {o : Oper} {a : Act} {w : World} {Q : Exit → Act → World → Prop} (hgd : o.guard = none) (s x : Operand)
  (ho : o.op = .call { callee := .builtin .append, args := #[s, x], argTypes := #[24, 24] }) (B : Nat) (v : Value) (hs : a.eval s = v) (hown : w.ownsRow B 9 1 v 0 [])
  (b2 : Nat) (v2 : Value) (ts : List ByteArray) (hx : a.eval x = v2) (hrow : w.ownsRow b2 9 1 v2 ts.length (ts.map Value.string)) (hlen : ts.length ≤ 1048576) (hB : B ≤ w.heap.size)
  (h : ∀ v' w', w'.ownsRow B 9 1 v' ts.length (ts.map Value.string) → Below B w w' → wpList Tryz.prog ops Q rest (a.put o.dst v') w') : wpList Tryz.prog ops Q (o :: rest) a w := by
 obtain ⟨i0, hi, hz0, hz1, hz2⟩ := info_parts Tryz.info9
 have hrow0 := hrow
 rcases hrow with ⟨hl, ⟨rfl, h0⟩ | ⟨g, cap, cur, rfl, hb, hg, hn, hm, hsz, hxs⟩⟩
 ·have : ts = [] := List.eq_nil_of_length_eq_zero h0
  subst this
  exact wpList_append_own_none hgd s x 24 ho B 9 i0 1 Tryz.underlying24 hi v 0 [] hs hown hx (h v w hown (Below.refl _ _))
 ·refine wpList_append_own w hgd s x 24 ho B 9 i0 (.string ⟨#[]⟩) 1 16 Tryz.underlying24 hi hz0 hz1 hz2 rfl (by decide) v 0 [] hs hown ⟨g, 0, none⟩ ts.length cap (ts.map Value.string) hx hl (fun j u hj => ?_) (by simp [Value.oneCell']) (by unfold maxLen; omega) (by omega) hB ?_
  ·have hjl := (List.getElem?_eq_some_iff.1 hj).1
   have hc := hrow0.cellAt j (by simp at hjl; omega)
   have e : (⟨g, 0, none⟩ : Addr).add j = ⟨g, j, none⟩ := by simp [Addr.add]; intro h; exact h.symm
   rw [e, hc, hj]
  ·intro v' w' ho' hg' _
   refine h v' w' ?_ ((Below.refl B w).grown hg' hB (fun g e => (hown.lt g e).1))
   rw [Nat.zero_add, List.nil_append] at ho'
   exact ho'
theorem row_any {w : World} {base n size : Nat} {e : TypeId} {v : Value} {xs : List Value} (h : w.ownsRow base e size v n xs) : ∃ a cap, v = .slice a n cap := by
 rcases h with ⟨_, ⟨rfl, rfl⟩ | ⟨g, cap, cur, rfl, hb, _⟩⟩
 ·exact ⟨none, 0, rfl⟩
 ·exact ⟨_, cap, rfl⟩
end Go.Proofs.YtkjdabnglcabiaaGreatDoor
/- spec.Get: looked for. -/
namespace Go.Proofs.YtkjdabnglcabiaaGreatDoor
open Go.RowKit
/-- A store in rows of its own. -/
structure StoreOwn (w : World) (B : Nat) (vi vp : Value) (its : Itms) (ts : List ByteArray) : Prop where
 items : w.ownsRow B 59 2 vi its.length (cellsI its)
 pins : w.ownsRow B 9 1 vp ts.length (ts.map Value.string)
 apart : ∀ g, vi.ownBlock = some g → vp.ownBlock ≠ some g
theorem StoreOwn.none (w : World) (B : Nat) : StoreOwn w B (.slice .none 0 0) (.slice .none 0 0) [] [] := ⟨World.ownsRow_nil _ _ _ _, World.ownsRow_nil _ _ _ _, fun g e => by simp [Value.ownBlock] at e⟩
theorem StoreOwn.below {w w' : World} {B : Nat} {vi vp : Value} {its : Itms} {ts : List ByteArray} (h : StoreOwn w B vi vp its ts) (hb : Below w.heap.size w w') : StoreOwn w' B vi vp its ts :=
 ⟨h.items.kept (grown_of_below hb) (by cases hv : vi.ownBlock <;> simp), Below.row hb h.pins, h.apart⟩
theorem StoreOwn.base {w : World} {B B' : Nat} {vi vp : Value} {its : Itms} {ts : List ByteArray} (h : StoreOwn w B vi vp its ts) (hb : B' ≤ B) : StoreOwn w B' vi vp its ts := ⟨ownsRow_base2 h.items hb, ownsRow_base2 h.pins hb, h.apart⟩
theorem StoreOwn.kept {w w' : World} {B k : Nat} {vi vp : Value} {its : Itms} {ts : List ByteArray} (h : StoreOwn w B vi vp its ts) (hg : w.grownBy w' (some k)) (hk : k < B) : StoreOwn w' B vi vp its ts :=
 ⟨h.items.kept hg (.inr fun e => by have := (h.items.lt _ e).1; omega), h.pins.kept hg (.inr fun e => by have := (h.pins.lt _ e).1; omega), h.apart⟩
theorem StoreOwn.rdi {w : World} {B : Nat} {vi vp : Value} {its : Itms} {ts : List ByteArray} (h : StoreOwn w B vi vp its ts) : RdI w vi its := by
 have hr := h.items
 rcases h.items with ⟨_, ⟨rfl, h0⟩ | ⟨g, cap, cur, rfl, hb, hg, _⟩⟩
 ·have : its = [] := List.eq_nil_of_length_eq_zero h0
  subst this
  exact ⟨_, 0, rfl, fun i hi => absurd hi (by simp)⟩
 ·refine ⟨_, cap, rfl, fun i hi => ⟨g, 0, rfl, (Array.getElem?_eq_some_iff.1 hg).1, ?_, ?_⟩⟩
  ·rw [Nat.zero_add, hr.cellAt _ (by omega)]; exact (cellsI_at its i hi).1
  ·rw [Nat.zero_add, hr.cellAt _ (by omega)]; exact (cellsI_at its i hi).2
/-- What Get answers. -/
def GetOk (wd room : Int) (its : Itms) (ts : List ByteArray) (s : ByteArray) (now : Int) : Prop := ValidSt wd room its ts ∧ (0 ≤ now ∧ now ≤ 1000000) ∧ ∃ i, i < its.length ∧ sumX wd (itx its i) = s
def GetR (wd room : Int) (its : Itms) (ts : List ByteArray) (s : ByteArray) (now : Int) (x : ByteArray) (wd' room' : Int) (its' : Itms) (ts' : List ByteArray) (b : Bool) : Prop :=
 (x = ⟨#[]⟩ ∧ wd' = 0 ∧ room' = 0 ∧ its' = [] ∧ ts' = [] ∧ b = false ∧ ¬ GetOk wd room its ts s now) ∨
 (b = true ∧ wd' = wd ∧ room' = room ∧ ts' = ts ∧ GetOk wd room its ts s now ∧ ∃ i, i < its.length ∧ sumX wd (itx its i) = s ∧ x = itx its i ∧ its' = its.set i (itx its i, now))
theorem cell_drew (X : World) (p : Addr) : X.drew.cell? p = X.cell? p := rfl
theorem cellsI_set (its : Itms) (i : Nat) (now : Int) (h : i < its.length) : (cellsI its).set (i * 2 + 1) (.int .i64 now) = cellsI (its.set i (itx its i, now)) := by
 induction its generalizing i with
 | nil => simp at h
 | cons p r ih =>
  cases i with
  | zero => simp [cellsI, itx]
  | succ i =>
   have := ih i (by simpa using h)
   have e : (i + 1) * 2 + 1 = i * 2 + 1 + 1 + 1 := by omega
   rw [e]
   simpa [cellsI, itx] using this
end Go.Proofs.YtkjdabnglcabiaaGreatDoor
/- slices.Sorted of maps.Keys of the map of items, laid at this program. -/
namespace Go.Proofs.YtkjdabnglcabiaaGreatDoor
open Go.RowKit Go.Maps Go.Sort Go.Shelf
def kRen7 : Go.Shelf.Ren := ⟨fun | 7 => 70 | 10 => 92 | n => n, fun | 23 => 72 | 26 => 9 | 3 => 59 | 28 => 79 | 0 => 0 | 27 => 78 | 33 => 75 | 4 => 4 | n => n, fun | n => n⟩
theorem kLays7 : SlLaysZ.n7 Tryz.prog kRen7 where
 mixed := by kernel_rfl
 f7 := ⟨Tryz.f70.name, by kernel_rfl, Tryz.func70.trans (congrArg some (by kernel_rfl))⟩
 f10 := ⟨Tryz.f92.name, by kernel_rfl, Tryz.func92.trans (congrArg some (by kernel_rfl))⟩
 t0 := by kernel_rfl
 a0 := fun _ => by kernel_rfl
 z0 := fun _ => by kernel_rfl
 v0 := fun _ => by kernel_rfl
 t4 := by kernel_rfl
 a4 := fun _ => by kernel_rfl
 z4 := fun _ => by kernel_rfl
 v4 := fun _ => by kernel_rfl
 t23 := by kernel_rfl
 a23 := fun _ => by kernel_rfl
 z23 := fun _ => by kernel_rfl
 v23 := fun _ => by kernel_rfl
 t26 := by kernel_rfl
 a26 := fun _ => by kernel_rfl
 z26 := fun _ => by kernel_rfl
 v26 := fun _ => by kernel_rfl
 t27 := by kernel_rfl
 a27 := fun _ => by kernel_rfl
 z27 := fun _ => by kernel_rfl
 v27 := fun _ => by kernel_rfl
 t28 := by kernel_rfl
 a28 := fun _ => by kernel_rfl
 z28 := fun _ => by kernel_rfl
 v28 := fun _ => by kernel_rfl
 t33 := by kernel_rfl
 a33 := fun _ => by kernel_rfl
 z33 := fun _ => by kernel_rfl
 v33 := fun _ => by kernel_rfl
def kRen6 : Go.Shelf.Ren := ⟨fun | 6 => 69 | 8 => 90 | 9 => 91 | 11 => 109 | 13 => 111 | 12 => 110 | 23 => 133 | 24 => 134 | 14 => 125 | 15 => 126 | 16 => 127 | 17 => 128 | 18 => 129 | 19 => 130 | 20 => 93 | 21 => 131 | 22 => 132 | 25 => 147 | 26 => 148 | 27 => 149 | 28 => 150 | 29 => 151 | 30 => 112 | 31 => 160 | n => n, fun | 26 => 9 | 28 => 79 | 24 => 24 | 0 => 0 | 3 => 3 | 37 => 135 | 48 => 189 | 50 => 92 | 4 => 4 | 40 => 183 | 39 => 182 | 45 => 109 | 5 => 5 | 9 => 9 | 51 => 212 | 55 => 215 | 57 => 224 | 58 => 225 | 33 => 75 | n => n, fun | n => n⟩
theorem kLays6 : SlLaysZ.n6 Tryz.prog kRen6 where
 mixed := by kernel_rfl
 f6 := ⟨Tryz.f69.name, by kernel_rfl, Tryz.func69.trans (congrArg some (by kernel_rfl))⟩
 f8 := ⟨Tryz.f90.name, by kernel_rfl, Tryz.func90.trans (congrArg some (by kernel_rfl))⟩
 f11 := ⟨Tryz.f109.name, by kernel_rfl, Tryz.func109.trans (congrArg some (by kernel_rfl))⟩
 t0 := by kernel_rfl
 a0 := fun _ => by kernel_rfl
 z0 := fun _ => by kernel_rfl
 v0 := fun _ => by kernel_rfl
 t24 := by kernel_rfl
 a24 := fun _ => by kernel_rfl
 z24 := fun _ => by kernel_rfl
 v24 := fun _ => by kernel_rfl
 t26 := by kernel_rfl
 a26 := fun _ => by kernel_rfl
 z26 := fun _ => by kernel_rfl
 v26 := fun _ => by kernel_rfl
 t28 := by kernel_rfl
 a28 := fun _ => by kernel_rfl
 z28 := fun _ => by kernel_rfl
 v28 := fun _ => by kernel_rfl
 i26 := by kernel_rfl
def kRenM : Go.Shelf.Ren := ⟨fun | 6 => 91 | 8 => 111 | 9 => 110 | 19 => 133 | 20 => 134 | 21 => 125 | 22 => 126 | 23 => 127 | 24 => 128 | 25 => 129 | 26 => 130 | 27 => 93 | 28 => 131 | 29 => 132 | 36 => 147 | 31 => 148 | 32 => 149 | 37 => 150 | 38 => 151 | 39 => 112 | 41 => 160 | n => n, fun | 27 => 24 | 29 => 9 | 3 => 3 | 32 => 135 | 26 => 24 | 0 => 0 | 44 => 189 | 46 => 92 | 4 => 4 | 36 => 183 | 35 => 182 | 41 => 109 | 5 => 5 | 9 => 9 | 53 => 212 | 57 => 215 | 63 => 224 | 64 => 225 | n => n, fun | n => n⟩
theorem kLaysM : SlLaysM.n6 Tryz.prog kRenM where
 mixed := by kernel_rfl
 f6 := ⟨Tryz.f91.name, by kernel_rfl, Tryz.func91.trans (congrArg some (by kernel_rfl))⟩
 f8 := by kernel_rfl
 f9 := ⟨Tryz.f110.name, by kernel_rfl, Tryz.func110.trans (congrArg some (by kernel_rfl))⟩
 f19 := by kernel_rfl
 f20 := by kernel_rfl
 f21 := ⟨Tryz.f125.name, by kernel_rfl, Tryz.func125.trans (congrArg some (by kernel_rfl))⟩
 f22 := ⟨Tryz.f126.name, by kernel_rfl, Tryz.func126.trans (congrArg some (by kernel_rfl))⟩
 f23 := ⟨Tryz.f127.name, by kernel_rfl, Tryz.func127.trans (congrArg some (by kernel_rfl))⟩
 f24 := ⟨Tryz.f128.name, by kernel_rfl, Tryz.func128.trans (congrArg some (by kernel_rfl))⟩
 f25 := ⟨Tryz.f129.name, by kernel_rfl, Tryz.func129.trans (congrArg some (by kernel_rfl))⟩
 f26 := ⟨Tryz.f130.name, by kernel_rfl, Tryz.func130.trans (congrArg some (by kernel_rfl))⟩
 f27 := ⟨Tryz.f93.name, by kernel_rfl, Tryz.func93.trans (congrArg some (by kernel_rfl))⟩
 f28 := ⟨Tryz.f131.name, by kernel_rfl, Tryz.func131.trans (congrArg some (by kernel_rfl))⟩
 f29 := ⟨Tryz.f132.name, by kernel_rfl, Tryz.func132.trans (congrArg some (by kernel_rfl))⟩
 f31 := by kernel_rfl
 f32 := by kernel_rfl
 f36 := ⟨Tryz.f147.name, by kernel_rfl, Tryz.func147.trans (congrArg some (by kernel_rfl))⟩
 f37 := ⟨Tryz.f150.name, by kernel_rfl, Tryz.func150.trans (congrArg some (by kernel_rfl))⟩
 f38 := ⟨Tryz.f151.name, by kernel_rfl, Tryz.func151.trans (congrArg some (by kernel_rfl))⟩
 f39 := ⟨Tryz.f112.name, by kernel_rfl, Tryz.func112.trans (congrArg some (by kernel_rfl))⟩
 f41 := ⟨Tryz.f160.name, by kernel_rfl, Tryz.func160.trans (congrArg some (by kernel_rfl))⟩
 t0 := by kernel_rfl
 a0 := fun _ => by kernel_rfl
 z0 := fun _ => by kernel_rfl
 v0 := fun _ => by kernel_rfl
 t3 := by kernel_rfl
 a3 := fun _ => by kernel_rfl
 z3 := fun _ => by kernel_rfl
 v3 := fun _ => by kernel_rfl
 t4 := by kernel_rfl
 a4 := fun _ => by kernel_rfl
 z4 := fun _ => by kernel_rfl
 v4 := fun _ => by kernel_rfl
 t5 := by kernel_rfl
 a5 := fun _ => by kernel_rfl
 z5 := fun _ => by kernel_rfl
 v5 := fun _ => by kernel_rfl
 t9 := by kernel_rfl
 a9 := fun _ => by kernel_rfl
 z9 := fun _ => by kernel_rfl
 v9 := fun _ => by kernel_rfl
 t26 := by kernel_rfl
 a26 := fun _ => by kernel_rfl
 z26 := fun _ => by kernel_rfl
 v26 := fun _ => by kernel_rfl
 t27 := by kernel_rfl
 a27 := fun _ => by kernel_rfl
 z27 := fun _ => by kernel_rfl
 v27 := fun _ => by kernel_rfl
 t29 := by kernel_rfl
 a29 := fun _ => by kernel_rfl
 z29 := fun _ => by kernel_rfl
 v29 := fun _ => by kernel_rfl
 t32 := by kernel_rfl
 a32 := fun _ => by kernel_rfl
 z32 := fun _ => by kernel_rfl
 v32 := fun _ => by kernel_rfl
 t35 := by kernel_rfl
 a35 := fun _ => by kernel_rfl
 z35 := fun _ => by kernel_rfl
 v35 := fun _ => by kernel_rfl
 t36 := by kernel_rfl
 a36 := fun _ => by kernel_rfl
 z36 := fun _ => by kernel_rfl
 v36 := fun _ => by kernel_rfl
 t41 := by kernel_rfl
 a41 := fun _ => by kernel_rfl
 z41 := fun _ => by kernel_rfl
 v41 := fun _ => by kernel_rfl
 t44 := by kernel_rfl
 a44 := fun _ => by kernel_rfl
 z44 := fun _ => by kernel_rfl
 v44 := fun _ => by kernel_rfl
 t46 := by kernel_rfl
 a46 := fun _ => by kernel_rfl
 z46 := fun _ => by kernel_rfl
 v46 := fun _ => by kernel_rfl
 t53 := by kernel_rfl
 a53 := fun _ => by kernel_rfl
 z53 := fun _ => by kernel_rfl
 v53 := fun _ => by kernel_rfl
 t57 := by kernel_rfl
 a57 := fun _ => by kernel_rfl
 z57 := fun _ => by kernel_rfl
 v57 := fun _ => by kernel_rfl
 t63 := by kernel_rfl
 a63 := fun _ => by kernel_rfl
 z63 := fun _ => by kernel_rfl
 v63 := fun _ => by kernel_rfl
 t64 := by kernel_rfl
 a64 := fun _ => by kernel_rfl
 z64 := fun _ => by kernel_rfl
 v64 := fun _ => by kernel_rfl
theorem kSorts (m : Nat) : AnyZ.SortsIn Tryz.prog kRen6 Fence.wide m :=
 ⟨fun blk off cap ss W hH hblk hsz => callsIn_wide.2 (AnyM.slices_Sort_string kLaysM blk off cap ss W hH hblk hsz),
 fun p cap W => callsIn_wide.2 (AnyM.slices_Sort_string_none kLaysM p cap W)⟩
theorem kKeys (mb : Option Nat) (W : World) : CallsIn Fence.wide 5 Tryz.prog 70 #[.map mb] W fun e w' => e = .returned (.func (.func 92) #[] #[.pointer (some ⟨W.heap.size, 0, none⟩)]) ∧ w' = W.alloc (.cells #[.map mb] 72) :=
 AnyZ.keys_in kLays7 Fence.wide 5 trivial rfl mb W
set_option maxHeartbeats 1000000 in
theorem kSorted {H : Type} (b nn : Nat) (D0 : DataW H) (R : Value → Option (DataW H × List MemPlace)) (w : World) (hown : w.ownsMap Tryz.prog 9 R b nn D0) (hmax : Maps.size D0 ≤ maxLen) (hbytes : Maps.size D0 * 16 ≤ 140737488355328) :
  CallsIn Fence.wide 5 Tryz.prog 69 #[.func (.func 92) #[] #[.pointer (some ⟨w.heap.size, 0, none⟩)]] (w.alloc (.cells #[.map (some b)] 72)) fun e w' => ∃ (v : Value) (ss : List (List UInt8)), e = .returned v ∧ ss.Perm (strKeys D0) ∧
   w'.ownsRow (w.alloc (.cells #[.map (some b)] 72)).heap.size 9 1 v ss.length ((ss.mergeSort (fun x y => decide (x ≤ y))).map encStr) ∧ (v = .slice none 0 0 ↔ ss = []) ∧ Below (w.alloc (.cells #[.map (some b)] 72)).heap.size (w.alloc (.cells #[.map (some b)] 72)) w' := by
 have hbl := hown.lt
 have hseq : SeqGives Fence.wide 2 Tryz.prog 92 #[.pointer (some ⟨w.heap.size, 0, none⟩)] encStr (fun ss => ss.Perm (strKeys D0)) (Maps.size D0) (w.alloc (.cells #[.map (some b)] 72)) :=
  AnyZ.keys_gives (ρ := kRen7) { kLays7 with } Fence.wide _ trivial rfl (by omega) w.heap.size b nn D0 _ (by simp) (by simp) (by
   obtain ⟨es, clock, hb, Ft, hs, hD⟩ := hown
   exact ⟨es, clock, (Below.heap_alloc _ _ b hbl).trans hb, Ft, hs, hD⟩)
 exact AnyZ.sorted_in kLays6 Fence.wide 5 trivial trivial trivial trivial rfl (by omega) (kSorts _) (enters_of Tryz.func91 (by kernel_rfl) rfl) 92 #[.pointer (some ⟨w.heap.size, 0, none⟩)] trivial (enters_of Tryz.func92 (by kernel_rfl) rfl) _ _ hmax hbytes _ hseq
theorem keysOK : KeysOK := by
 refine ⟨fun mb W => callsIn_wide.1 (kKeys (some mb) W), fun b nn D w hown ht S hS hm hl => ?_⟩
 have hsz : Maps.size D = S.length := by
  obtain ⟨es, rfl, he⟩ := ht
  have hk : ∀ p ∈ es, ∃ x, p.1 = .string x := by
   obtain ⟨es', e', hk'⟩ := hown.keysOf
   cases e'
   intro p hp
   obtain ⟨key, hkey⟩ := hk' p hp
   obtain ⟨x, _, h2, _⟩ := Maps.keyOf_str Tryz.underlying9 hkey
   exact ⟨x, h2⟩
  have hnd : S.Nodup := hS.imp fun h e => by subst e; exact List.lt_irrefl _ h
  have := (perm_strKeys he hk hnd hm).length_eq
  rw [this]
  simp [Maps.size, strKeys]
 refine (callsIn_wide.1 (kSorted b nn D itemElem w hown (by rw [hsz]; unfold maxLen; omega) (by omega))).mono ?_
 rintro e w' ⟨v, ss, rfl, hp, hrow, _, hb⟩
 have hso := sorted_keys hown ht hS hm hp
 have hln : ss.length = S.length := by rw [← hso, List.length_mergeSort]
 rw [hso, hln, World.size_alloc] at hrow
 rw [World.size_alloc] at hb
 exact ⟨v, rfl, hrow, hb⟩
end Go.Proofs.YtkjdabnglcabiaaGreatDoor
/- impl.Get. -/
namespace Go.Proofs.YtkjdabnglcabiaaGreatDoor
open Go.RowKit Go.Sort
theorem sums_inj {n : Int} {its : Itms} (hN : (sumsL n its).Pairwise (· < ·)) {i j : Nat} (hi : i < its.length) (hj : j < its.length) (h : (sumX n (itx its i)).data.toList = (sumX n (itx its j)).data.toList) : i = j := by
 obtain ⟨_, g1⟩ := List.getElem_of_getElem? (sumsL_get n its i hi)
 obtain ⟨_, g2⟩ := List.getElem_of_getElem? (sumsL_get n its j hj)
 rcases Nat.lt_trichotomy i j with hl | hl | hl
 ·have h1 := List.pairwise_iff_getElem.1 hN i j (by rw [sumsL_len]; omega) (by rw [sumsL_len]; omega) hl
  rw [g1, g2, h] at h1
  exact absurd h1 (List.lt_irrefl _)
 ·exact hl
 ·have h1 := List.pairwise_iff_getElem.1 hN j i (by rw [sumsL_len]; omega) (by rw [sumsL_len]; omega) hl
  rw [g1, g2, h] at h1
  exact absurd h1 (List.lt_irrefl _)
/-- 'v, ok := m[k]' of the map of items. -/
theorem wpList_look_item {ops : Array Oper} {rest : List Oper} {o : Oper} {a : Act} {Q : Exit → Act → World → Prop} (w : World) (hg : o.guard = none) (m x : Operand) (hop : o.op = Op.lookup 72 m x true) (b n : Nat) (D : DataW Unit)
  (hm : a.eval m = .map (some b)) (hown : w.ownsMap Tryz.prog 9 itemElem b n D) (s : ByteArray) (hs : s.size ≤ maxLen) (hx : a.eval x = .string s) (t : ByteArray) (u : Int) (hat : D.atKey (.string s.data.toList) (datI (⟨#[]⟩, 0)) = datI (t, u)) (hh : Bool) (hhas : Maps.has D (.string s.data.toList) = hh)
  (hK : wpList Tryz.prog ops Q rest (a.put o.dst (.tuple #[.agg #[.string t, .int .i64 u], .bool hh])) w) : wpList Tryz.prog ops Q (o :: rest) a w := by
 refine wpList_lookup_own_ok w hg m x 72 hop 9 59 keyed9 Tryz.underlying72 itemElem (zvItem w) (datI (⟨#[]⟩, 0)) [] (itemElem_mk ⟨#[]⟩ 0) b n D hm hown (.string s) _ hx (key9 s hs) ?_
 intro v ps hv
 rw [hat] at hv
 obtain rfl := itemElem_inv hv
 rw [hhas]
 exact hK
end Go.Proofs.YtkjdabnglcabiaaGreatDoor
/- What pins need. -/
namespace Go.Proofs.YtkjdabnglcabiaaGreatDoor
open Go.RowKit
/-- The text of the item with a sum, and the empty one where there is none. -/
def Under (wd : Int) (its : Itms) (s t : ByteArray) : Prop := (∃ i, i < its.length ∧ sumX wd (itx its i) = s ∧ t = itx its i) ∨ ((∀ i, i < its.length → sumX wd (itx its i) ≠ s) ∧ t = ⟨#[]⟩)
/-- The list that the item with a sum is read as. -/
def UL (wd : Int) (its : Itms) (s : ByteArray) (n : Int) (ss : List ByteArray) (ok : Bool) : Prop := ∃ t, Under wd its s t ∧ ReadR t wd n ss ok
theorem Under.uniq {wd : Int} {its : Itms} {s t t' : ByteArray} (hN : (sumsL wd its).Pairwise (· < ·)) (h : Under wd its s t) (k : Under wd its s t') : t = t' := by
 rcases h with ⟨i, hi, e, rfl⟩ | ⟨hn, rfl⟩ <;> rcases k with ⟨j, hj, e', rfl⟩ | ⟨kn, rfl⟩
 ·have := sums_inj hN hi hj (by rw [e, e'])
  subst this
  rfl
 ·exact absurd e (kn i hi)
 ·exact absurd e' (hn j hj)
 ·rfl
theorem UL.uniq {wd : Int} {its : Itms} {s : ByteArray} {n n' : Int} {ss ss' : List ByteArray} {ok ok' : Bool} (hN : (sumsL wd its).Pairwise (· < ·)) (h : UL wd its s n ss ok) (k : UL wd its s n' ss' ok') : n = n' ∧ ss = ss' ∧ ok = ok' := by
 obtain ⟨t, ht, hr⟩ := h
 obtain ⟨t', kt, kr⟩ := k
 obtain rfl := ht.uniq hN kt
 exact hr.uniq kr
theorem read_none (wd : Int) : ReadR ⟨#[]⟩ wd 0 [] false := .inr ⟨rfl, rfl, rfl, noForm_size (.inl (by show (0 : Nat) < 6; omega))⟩
theorem ReadR.few {s : ByteArray} {m n : Int} {ss : List ByteArray} {ok : Bool} (h : ReadR s m n ss ok) : ss.length ≤ 375 ∧ (ok = false → ss = []) ∧ ∀ x ∈ ss, (x.size : Int) = m ∧ isW m = true := by
 rcases h with ⟨e, h, _⟩ | ⟨_, _, rfl, _⟩
 ·have := okL_parts h
  exact ⟨this.2.2.1, fun h => (by rw [e] at h; cases h), fun x hx => ⟨this.2.2.2 x hx, this.1⟩⟩
 ·exact ⟨by simp, fun _ => rfl, fun x hx => by cases hx⟩
theorem UL.few {wd : Int} {its : Itms} {s : ByteArray} {n : Int} {ss : List ByteArray} {ok : Bool} (h : UL wd its s n ss ok) : ss.length ≤ 375 ∧ (ok = false → ss = []) ∧ ∀ x ∈ ss, (x.size : Int) = wd ∧ isW wd = true := by
 obtain ⟨t, _, hr⟩ := h
 exact hr.few
def NeedX (wd : Int) (its : Itms) (p x : ByteArray) : Prop := x = p ∨ ∃ n ss ok, UL wd its p n ss ok ∧ x ∈ ss
def NeedTo (wd : Int) (its : Itms) (ts : List ByteArray) (k : Nat) (x : ByteArray) : Prop := ∃ j, j < k ∧ NeedX wd its (tv ts j) x
/-- What Needed answers of a valid store. -/
structure NeedR (wd : Int) (its : Itms) (ts : List ByteArray) (k : Nat) (out : List ByteArray) : Prop where
 asc : Asc out
 mem : ∀ x, x ∈ out ↔ NeedTo wd its ts k x
theorem NeedX.of_list {wd : Int} {its : Itms} {p x : ByteArray} {n : Int} {ss : List ByteArray} {ok : Bool} (hN : (sumsL wd its).Pairwise (· < ·)) (h : UL wd its p n ss ok) : NeedX wd its p x ↔ x = p ∨ x ∈ ss := by
 constructor
 ·rintro (e | ⟨n', ss', ok', h', hx⟩)
  ·exact .inl e
  ·obtain ⟨_, rfl, _⟩ := h.uniq hN h'
   exact .inr hx
 ·rintro (e | hx)
  ·exact .inl e
  ·exact .inr ⟨n, ss, ok, h, hx⟩
theorem NeedTo.succ {wd : Int} {its : Itms} {ts : List ByteArray} {k : Nat} {x : ByteArray} : NeedTo wd its ts (k + 1) x ↔ NeedTo wd its ts k x ∨ NeedX wd its (tv ts k) x := by
 constructor
 ·rintro ⟨j, hj, h⟩
  rcases Nat.lt_or_eq_of_le (Nat.le_of_lt_succ hj) with h1 | h1
  ·exact .inl ⟨j, h1, h⟩
  ·subst h1
   exact .inr h
 ·rintro (⟨j, hj, h⟩ | h)
  ·exact ⟨j, by omega, h⟩
  ·exact ⟨k, by omega, h⟩
theorem asc_eq : ∀ {a b : List ByteArray}, Asc a → Asc b → (∀ x, x ∈ a ↔ x ∈ b) → a = b
 | [], [], _, _, _ => rfl
 | [], y :: b, _, _, h => by have := (h y).2 (by simp); cases this
 | x :: a, [], _, _, h => by have := (h x).1 (by simp); cases this
 | x :: a, y :: b, ha, hb, h => by
  have h1 := List.pairwise_cons.1 ha
  have h2 := List.pairwise_cons.1 hb
  have e : x = y := by
   rcases List.mem_cons.1 ((h x).1 (by simp)) with e | hx
   ·exact e
   ·rcases List.mem_cons.1 ((h y).2 (by simp)) with e | hy
    ·exact e.symm
    ·have k1 := h2.1 x hx
     have k2 := h1.1 y hy
     have := tlt_trans k1 k2
     rw [tlt_irrefl] at this
     cases this
  subst e
  have e2 : a = b := asc_eq h1.2 h2.2 (fun z => by
   constructor
   ·intro hz
    rcases List.mem_cons.1 ((h z).1 (List.mem_cons_of_mem _ hz)) with e | hz'
    ·subst e
     have := h1.1 z hz
     rw [tlt_irrefl] at this
     cases this
    ·exact hz'
   ·intro hz
    rcases List.mem_cons.1 ((h z).2 (List.mem_cons_of_mem _ hz)) with e | hz'
    ·subst e
     have := h2.1 z hz
     rw [tlt_irrefl] at this
     cases this
    ·exact hz')
  rw [e2]
theorem NeedR.uniq {wd : Int} {its : Itms} {ts : List ByteArray} {k : Nat} {a b : List ByteArray} (h : NeedR wd its ts k a) (g : NeedR wd its ts k b) : a = b := asc_eq h.asc g.asc fun x => (h.mem x).trans (g.mem x).symm
/-- One more text in its place. -/
def putT (s : ByteArray) (ts : List ByteArray) : List ByteArray := if cutN s ts < ts.length ∧ tv ts (cutN s ts) = s then ts else ts.take (cutN s ts) ++ s :: ts.drop (cutN s ts)
theorem putT_mem {s : ByteArray} {ts : List ByteArray} (x : ByteArray) : x ∈ putT s ts ↔ x = s ∨ x ∈ ts := by
 unfold putT
 split
 ·next h =>
  constructor
  ·exact .inr
  ·rintro (e | hx)
   ·subst e
    have := h.2
    unfold tv at this
    rw [List.getD_eq_getElem?_getD, List.getElem?_eq_getElem h.1] at this
    have h3 : ts[cutN x ts]'h.1 = x := by simpa using this
    exact h3 ▸ List.getElem_mem h.1
   ·exact hx
 ·have e : ts = ts.take (cutN s ts) ++ ts.drop (cutN s ts) := (List.take_append_drop _ _).symm
  constructor
  ·intro hx
   rcases List.mem_append.1 hx with h1 | h1
   ·exact .inr (List.mem_of_mem_take h1)
   ·rcases List.mem_cons.1 h1 with h2 | h2
    ·exact .inl h2
    ·exact .inr (List.mem_of_mem_drop h2)
  ·rintro (h1 | h1)
   ·subst h1
    simp
   ·rw [e] at h1
    rcases List.mem_append.1 h1 with h2 | h2
    ·exact List.mem_append_left _ h2
    ·exact List.mem_append_right _ (List.mem_cons_of_mem _ h2)
theorem putT_asc {s : ByteArray} {ts : List ByteArray} (h : Asc ts) : Asc (putT s ts) := by
 unfold putT
 split
 ·exact h
 ·next hn =>
  have ht : ∀ x ∈ ts.take (cutN s ts), tlt x s = true := by
   rw [← cut_take s ts h]
   intro x hx
   exact (List.mem_filter.1 hx).2
  have hd : ∀ x ∈ ts.drop (cutN s ts), tlt s x = true := by
   intro x hx
   have h1 : tlt x s = false := by
    have : x ∈ ts.filter (fun t => !tlt t s) := by rw [cut_drop s ts h]; exact hx
    simpa using (List.mem_filter.1 this).2
   by_cases hx2 : tlt s x = true
   ·exact hx2
   ·exfalso
    have e : x = s := text_eq (bl_total _ _ h1 (Bool.eq_false_iff.2 hx2))
    subst e
    obtain ⟨i, hi, e2⟩ := List.mem_iff_getElem.1 hx
    rw [List.getElem_drop] at e2
    rw [List.length_drop] at hi
    by_cases h0 : i = 0
    ·subst h0
     refine hn ⟨by omega, ?_⟩
     unfold tv
     rw [List.getD_eq_getElem?_getD, List.getElem?_eq_getElem (by omega)]
     simpa using e2
    ·have h3 := List.pairwise_iff_getElem.1 h (cutN x ts) (cutN x ts + i) (by omega) (by omega) (by omega)
     rw [e2] at h3
     have h4 := cut_above x ts h (cutN x ts) (Nat.le_refl _) (by omega)
     unfold tv at h4
     rw [List.getD_eq_getElem?_getD, List.getElem?_eq_getElem (by omega)] at h4
     simp only [Option.getD_some] at h4
     rw [h3] at h4
     cases h4
  refine List.pairwise_append.2 ⟨asc_take h _, List.pairwise_cons.2 ⟨hd, asc_drop h _⟩, fun a ha b hb => ?_⟩
  rcases List.mem_cons.1 hb with e | hb
  ·subst e
   exact ht a ha
  ·exact tlt_trans (ht a ha) (hd b hb)
theorem putT_len (s : ByteArray) (ts : List ByteArray) : (putT s ts).length ≤ ts.length + 1 := by
 unfold putT
 split
 ·omega
 ·have := cutN_le s ts
  simp
  omega
end Go.Proofs.YtkjdabnglcabiaaGreatDoor
/- What goes first out of a store, and what Put makes of one. -/
namespace Go.Proofs.YtkjdabnglcabiaaGreatDoor
def lvOf (wd : Int) (p : ByteArray × Int) : Lv := (sumX wd p.1, p.2)
def lvAt (wd : Int) (its : Itms) (i : Nat) : Lv := (sumX wd (itx its i), itu its i)
/-- The item that goes first. -/
structure LeastAway (wd : Int) (Q : ByteArray → Prop) (its : Itms) (i : Nat) : Prop where
 lt : i < its.length
 free : ¬ Q (sumX wd (itx its i))
 least : ∀ j, j < its.length → ¬ Q (sumX wd (itx its j)) → lfB (lvAt wd its j) (lvAt wd its i) = false
theorem LeastAway.uniq {wd : Int} {Q : ByteArray → Prop} {its : Itms} {i j : Nat} (hN : (sumsL wd its).Pairwise (· < ·)) (h : LeastAway wd Q its i) (k : LeastAway wd Q its j) : i = j := by
 have e := lfB_eq (h.least j k.lt k.free) (k.least i h.lt h.free)
 have e1 : sumX wd (itx its j) = sumX wd (itx its i) := congrArg Prod.fst e
 exact (sums_inj hN k.lt h.lt (by rw [e1])).symm
/-- So many given away, one by one. -/
inductive AwayN (wd : Int) (Q : ByteArray → Prop) (its : Itms) : Nat → Itms → Prop where
 | zero : AwayN wd Q its 0 its
 | step {k : Nat} {its1 : Itms} {i : Nat} (h : AwayN wd Q its k its1) (hl : LeastAway wd Q its1 i) : AwayN wd Q its (k + 1) (its1.eraseIdx i)
theorem AwayN.sub {wd : Int} {Q : ByteArray → Prop} {its its' : Itms} {k : Nat} (h : AwayN wd Q its k its') : its'.Sublist its := by
 induction h with
 | zero => exact List.Sublist.refl _
 | step h hl ih => exact (List.eraseIdx_sublist _ _).trans ih
theorem AwayN.asc {wd : Int} {Q : ByteArray → Prop} {its its' : Itms} {k : Nat} (h : AwayN wd Q its k its') (hN : (sumsL wd its).Pairwise (· < ·)) : (sumsL wd its').Pairwise (· < ·) :=
 hN.sublist (h.sub.map _)
theorem AwayN.uniq {wd : Int} {Q : ByteArray → Prop} {its : Itms} (hN : (sumsL wd its).Pairwise (· < ·)) : ∀ {k : Nat} {a b : Itms}, AwayN wd Q its k a → AwayN wd Q its k b → a = b
 | 0, _, _, .zero, .zero => rfl
 | k + 1, _, _, .step h hl, .step h' hl' => by
  obtain rfl := AwayN.uniq hN h h'
  obtain rfl := hl.uniq (h.asc hN) hl'
  rfl
theorem AwayN.len {wd : Int} {Q : ByteArray → Prop} {its its' : Itms} {k : Nat} (h : AwayN wd Q its k its') : its'.length + k = its.length := by
 induction h with
 | zero => rfl
 | step h hl ih =>
  have := hl.lt
  rw [List.length_eraseIdx_of_lt this]
  omega
/-- A chain that is longer has a first that goes at each place. -/
theorem AwayN.cut {wd : Int} {Q : ByteArray → Prop} {its its' : Itms} {k : Nat} (h : AwayN wd Q its k its') : ∀ j, j < k → ∃ a i, AwayN wd Q its j a ∧ LeastAway wd Q a i := by
 induction h with
 | zero => intro j hj; omega
 | step h hl ih =>
  rename_i k its1 i
  intro j hj
  by_cases e : j = k
  ·subst e; exact ⟨its1, i, h, hl⟩
  ·exact ih j (by omega)
def fitsI (room : Int) (its : Itms) (n : Nat) : Prop := (totI its : Int) + n ≤ room ∧ its.length < 1000
/-- How many items stand ahead of a sum. -/
def cutI (wd : Int) (s : ByteArray) (its : Itms) : Nat := cutN s (its.map fun p => sumX wd p.1)
def insI (wd : Int) (its : Itms) (t : ByteArray) (now : Int) : Itms := its.take (cutI wd (sumX wd t) its) ++ (t, now) :: its.drop (cutI wd (sumX wd t) its)
/-- What Put makes of the items of a valid store. -/
inductive PutI (wd room : Int) (Q : ByteArray → Prop) (its : Itms) (t : ByteArray) (now : Int) : Int → Itms → Prop where
 | there (i : Nat) (hi : i < its.length) (hs : sumX wd (itx its i) = sumX wd t) (ht : itx its i = t) : PutI wd room Q its t now 0 (its.set i (t, now))
 | other (i : Nat) (hi : i < its.length) (hs : sumX wd (itx its i) = sumX wd t) (ht : itx its i ≠ t) : PutI wd room Q its t now 2 its
 | put (k : Nat) (its' : Itms) (hn : ∀ i, i < its.length → sumX wd (itx its i) ≠ sumX wd t) (ha : AwayN wd Q its k its') (hf : fitsI room its' t.size) (hb : ∀ j a, j < k → AwayN wd Q its j a → ¬ fitsI room a t.size) : PutI wd room Q its t now 0 (insI wd its' t now)
 | full (k : Nat) (its' : Itms) (hn : ∀ i, i < its.length → sumX wd (itx its i) ≠ sumX wd t) (ha : AwayN wd Q its k its') (hb : ∀ j a, j < k + 1 → AwayN wd Q its j a → ¬ fitsI room a t.size) (hno : ∀ i, i < its'.length → Q (sumX wd (itx its' i))) : PutI wd room Q its t now 3 its
theorem PutI.uniq {wd room : Int} {Q : ByteArray → Prop} {its : Itms} {t : ByteArray} {now c c' : Int} {a a' : Itms} (hN : (sumsL wd its).Pairwise (· < ·)) (h : PutI wd room Q its t now c a) (h' : PutI wd room Q its t now c' a') : c = c' ∧ a = a' := by
 cases h with
 | there i hi hs ht =>
  cases h' with
  | there j hj ks kt =>
   obtain rfl := sums_inj hN hi hj (by rw [hs, ks])
   exact ⟨rfl, rfl⟩
  | other j hj ks kt =>
   obtain rfl := sums_inj hN hi hj (by rw [hs, ks])
   exact absurd ht kt
  | put k b hn => exact absurd hs (hn i hi)
  | full k b hn => exact absurd hs (hn i hi)
 | other i hi hs ht =>
  cases h' with
  | there j hj ks kt =>
   obtain rfl := sums_inj hN hi hj (by rw [hs, ks])
   exact absurd kt ht
  | other j hj ks kt => exact ⟨rfl, rfl⟩
  | put k b hn => exact absurd hs (hn i hi)
  | full k b hn => exact absurd hs (hn i hi)
 | put k b hn hw hf hb =>
  cases h' with
  | there j hj ks kt => exact absurd ks (hn j hj)
  | other j hj ks kt => exact absurd ks (hn j hj)
  | put k2 b2 hn2 hw2 hf2 hb2 =>
   rcases Nat.lt_trichotomy k k2 with e | e | e
   ·exact absurd hf (hb2 k b e hw)
   ·subst e
    obtain rfl := hw.uniq hN hw2
    exact ⟨rfl, rfl⟩
   ·exact absurd hf2 (hb k2 b2 e hw2)
  | full k2 b2 hn2 hw2 hb2 hno2 =>
   by_cases e : k < k2 + 1
   ·exact absurd hf (hb2 k b e hw)
   ·obtain ⟨z, i, hz, hl⟩ := hw.cut k2 (by omega)
    obtain rfl := hz.uniq hN hw2
    exact absurd (hno2 i hl.lt) hl.free
 | full k b hn hw hb hno =>
  cases h' with
  | there j hj ks kt => exact absurd ks (hn j hj)
  | other j hj ks kt => exact absurd ks (hn j hj)
  | put k2 b2 hn2 hw2 hf2 hb2 =>
   by_cases e : k2 < k + 1
   ·exact absurd hf2 (hb k2 b2 e hw2)
   ·obtain ⟨z, i, hz, hl⟩ := hw2.cut k (by omega)
    obtain rfl := hz.uniq hN hw
    exact absurd (hno i hl.lt) hl.free
  | full k2 b2 => exact ⟨rfl, rfl⟩
/-! Items with one taken out -/
theorem itx_get (its : Itms) (i : Nat) (h : i < its.length) : itx its i = its[i].1 := by simp [itx, h]
theorem itu_get (its : Itms) (i : Nat) (h : i < its.length) : itu its i = its[i].2 := by simp [itu, h]
theorem lvAt_of (wd : Int) (its : Itms) (i : Nat) (h : i < its.length) : lvAt wd its i = lvOf wd its[i] := by unfold lvAt lvOf; rw [itx_get its i h, itu_get its i h]
theorem its_nodup {wd : Int} {its : Itms} (hN : (sumsL wd its).Pairwise (· < ·)) : its.Nodup := by
 have h : (its.map fun p => (sumX wd p.1).data.toList).Pairwise (· < ·) := hN
 rw [List.pairwise_map] at h
 exact h.imp fun h e => by subst e; exact List.lt_irrefl _ h
theorem totI_erase : ∀ (its : Itms) (i : Nat), i < its.length → totI (its.eraseIdx i) + (itx its i).size = totI its
 | [], _, h => absurd h (by simp)
 | p :: r, 0, _ => by simp [totI, itx]; omega
 | p :: r, i + 1, h => by
  have ih := totI_erase r i (by simpa using h)
  have e : itx (p :: r) (i + 1) = itx r i := rfl
  rw [e]
  simp only [List.eraseIdx_cons_succ, totI]
  omega
theorem mem_erase {wd : Int} {its : Itms} (hN : (sumsL wd its).Pairwise (· < ·)) (i : Nat) (h : i < its.length) (p : ByteArray × Int) : p ∈ its.eraseIdx i ↔ p ∈ its ∧ p ≠ its[i] := by
 have hd := its_nodup hN
 have e : its = its.take i ++ its[i] :: its.drop (i + 1) := by rw [List.getElem_cons_drop, List.take_append_drop]
 have e2 : its.eraseIdx i = its.take i ++ its.drop (i + 1) := List.eraseIdx_eq_take_drop_succ _ _
 generalize hq : its[i] = q at *
 rw [e] at hd
 rw [e2]
 have hne : ∀ x, x ∈ its.take i ++ its.drop (i + 1) → x ≠ q := by
  rw [List.nodup_append] at hd
  obtain ⟨_, h2, h3⟩ := hd
  rw [List.nodup_cons] at h2
  intro x hx hxq
  subst hxq
  rcases List.mem_append.1 hx with hx | hx
  ·exact h3 x hx x (by simp) rfl
  ·exact h2.1 hx
 constructor
 ·intro hp
  refine ⟨?_, hne p hp⟩
  rw [e]
  simp only [List.mem_append, List.mem_cons] at hp ⊢
  rcases hp with hp | hp
  ·exact .inl hp
  ·exact .inr (.inr hp)
 ·rintro ⟨hp, hn⟩
  rw [e] at hp
  simp only [List.mem_append, List.mem_cons] at hp ⊢
  rcases hp with hp | hp | hp
  ·exact .inl hp
  ·exact absurd hp hn
  ·exact .inr hp
/-! The heap of what may leave -/
structure HeapIs (wd : Int) (Q : ByteArray → Prop) (its : Itms) (hs : List Lv) : Prop where
 nodup : hs.Nodup
 mem : ∀ l, l ∈ hs ↔ ∃ p, p ∈ its ∧ ¬ Q (sumX wd p.1) ∧ l = lvOf wd p
theorem lvOf_inj {wd : Int} {its : Itms} (hN : (sumsL wd its).Pairwise (· < ·)) {p q : ByteArray × Int} (hp : p ∈ its) (hq : q ∈ its) (h : lvOf wd p = lvOf wd q) : p = q := by
 obtain ⟨i, hi, rfl⟩ := List.getElem_of_mem hp
 obtain ⟨j, hj, rfl⟩ := List.getElem_of_mem hq
 have e : sumX wd its[i].1 = sumX wd its[j].1 := congrArg Prod.fst h
 have := sums_inj (n := wd) hN hi hj (by rw [itx_get its i hi, itx_get its j hj, e])
 subst this
 rfl
theorem HeapIs.pop {wd : Int} {Q : ByteArray → Prop} {its : Itms} {hs hs' : List Lv} (hN : (sumsL wd its).Pairwise (· < ·)) (h : HeapIs wd Q its hs) (hh : HpL hs) (hp : (hv hs 0 :: hs').Perm hs) : ∃ i, LeastAway wd Q its i ∧ hv hs 0 = lvAt wd its i ∧ HeapIs wd Q (its.eraseIdx i) hs' := by
 have hd := hp.nodup_iff.2 h.nodup
 rw [List.nodup_cons] at hd
 have hm : ∀ l, l ∈ hs ↔ l = hv hs 0 ∨ l ∈ hs' := fun l => by rw [← hp.mem_iff]; simp
 obtain ⟨p, hpi, hpq, hpe⟩ := (h.mem _).1 ((hm _).2 (.inl rfl))
 obtain ⟨i, hi, rfl⟩ := List.getElem_of_mem hpi
 refine ⟨i, ⟨hi, by rw [itx_get its i hi]; exact hpq, fun j hj hf => ?_⟩, by rw [lvAt_of wd its i hi]; exact hpe, hd.2, fun l => ?_⟩
 ·rw [lvAt_of wd its i hi, ← hpe]
  refine hh.least _ ((h.mem _).2 ⟨its[j], List.getElem_mem hj, by rw [itx_get its j hj] at hf; exact hf, lvAt_of wd its j hj⟩)
 ·constructor
  ·intro hl
   obtain ⟨q, hq1, hq2, hq3⟩ := (h.mem l).1 ((hm l).2 (.inr hl))
   refine ⟨q, (mem_erase hN i hi q).2 ⟨hq1, fun e => ?_⟩, hq2, hq3⟩
   subst e
   rw [hq3, ← hpe] at hl
   exact hd.1 hl
  ·rintro ⟨q, hq1, hq2, rfl⟩
   obtain ⟨hq1, hne⟩ := (mem_erase hN i hi q).1 hq1
   rcases (hm _).1 ((h.mem _).2 ⟨q, hq1, hq2, rfl⟩) with e | e
   ·rw [hpe] at e
    exact absurd (lvOf_inj hN hq1 hpi e) hne
   ·exact e
theorem HeapIs.empty {wd : Int} {Q : ByteArray → Prop} {its : Itms} (h : HeapIs wd Q its []) : ∀ i, i < its.length → Q (sumX wd (itx its i)) := fun i hi => by
 apply Classical.byContradiction
 intro hn
 have := (h.mem (lvOf wd its[i])).2 ⟨its[i], List.getElem_mem hi, by rw [← itx_get its i hi]; exact hn, rfl⟩
 cases this
end Go.Proofs.YtkjdabnglcabiaaGreatDoor
