import Derived.Test.YtlnkhbnbcmllaaaGreatShelfStore
import Derived.Laws.AppendOwnNone
import Derived.Shelf.SlIter.Nil
import Derived.Shelf.SortM.Plain
import Derived.Shelf.SortM.SortNone
/- spec.l4Copy: a store in rows of its own. -/
namespace Go.Proofs.YtlnkhbnbcmllaaaGreat
open Go.RowKit
theorem Blk.belowAt {W W' : World} {b B : Nat} {T : TypeId} {cs : Array Value} (h : Blk W b T cs) (hb : Below B W W') (hlt : b < B) : Blk W' b T cs := (hb.block b hlt).trans h
theorem cellsI_one (its : Itms) : ∀ u ∈ cellsI its, u.oneCell' = true := by
  intro u hu
  unfold cellsI at hu
  rw [List.mem_flatMap] at hu
  obtain ⟨p, _, hp⟩ := hu
  simp only [List.mem_cons, List.not_mem_nil, or_false] at hp
  rcases hp with rfl | rfl <;> rfl
/-- append of a row of texts onto an own row of none. -/
theorem append_texts {ops : Array Oper} {rest : List Oper} {o : Oper} {a : Act} {w : World} {Q : Exit → Act → World → Prop} (hgd : o.guard = none) (s x : Operand)
    (ho : o.op = .call { callee := .builtin .append, args := #[s, x], argTypes := #[23, 23] }) (B : Nat) (v : Value) (hs : a.eval s = v) (hown : w.ownsRow B 9 1 v 0 [])
    (b2 : Nat) (v2 : Value) (ts : List ByteArray) (hx : a.eval x = v2) (hrow : w.ownsRow b2 9 1 v2 ts.length (ts.map Value.string)) (hlen : ts.length ≤ 1048576) (hB : B ≤ w.heap.size)
    (h : ∀ v' w', w'.ownsRow B 9 1 v' ts.length (ts.map Value.string) → Below B w w' → wpList Tryz.prog ops Q rest (a.put o.dst v') w') : wpList Tryz.prog ops Q (o :: rest) a w := by
  obtain ⟨i0, hi, hz0, hz1, hz2⟩ := info_parts Tryz.info9
  have hrow0 := hrow
  rcases hrow with ⟨hl, ⟨rfl, h0⟩ | ⟨g, cap, cur, rfl, hb, hg, hn, hm, hsz, hxs⟩⟩
  · have : ts = [] := List.eq_nil_of_length_eq_zero h0
    subst this
    exact wpList_append_own_none hgd s x 23 ho B 9 i0 1 Tryz.underlying23 hi v 0 [] hs hown hx (h v w hown (Below.refl _ _))
  · refine wpList_append_own w hgd s x 23 ho B 9 i0 (.string ⟨#[]⟩) 1 16 Tryz.underlying23 hi hz0 hz1 hz2 rfl (by decide) v 0 [] hs hown ⟨g, 0, none⟩ ts.length cap (ts.map Value.string) hx hl (fun j u hj => ?_) (by simp [Value.oneCell']) (by unfold maxLen; omega) (by omega) hB ?_
    · have hjl := (List.getElem?_eq_some_iff.1 hj).1
      have hc := hrow0.cellAt j (by simp at hjl; omega)
      have e : (⟨g, 0, none⟩ : Addr).add j = ⟨g, j, none⟩ := by simp [Addr.add]; intro h; exact h.symm
      rw [e, hc, hj]
    · intro v' w' ho' hg' _
      refine h v' w' ?_ ((Below.refl B w).grown hg' hB (fun g e => (hown.lt g e).1))
      rw [Nat.zero_add, List.nil_append] at ho'
      exact ho'
theorem row_any {w : World} {base n size : Nat} {e : TypeId} {v : Value} {xs : List Value} (h : w.ownsRow base e size v n xs) : ∃ a cap, v = .slice a n cap := by
  rcases h with ⟨_, ⟨rfl, rfl⟩ | ⟨g, cap, cur, rfl, hb, _⟩⟩
  · exact ⟨none, 0, rfl⟩
  · exact ⟨_, cap, rfl⟩
end Go.Proofs.YtlnkhbnbcmllaaaGreat
/- spec.Get: looked for. -/
namespace Go.Proofs.YtlnkhbnbcmllaaaGreat
open Go.RowKit
/-- A store in rows of its own. -/
structure StoreOwn (w : World) (B : Nat) (vi vp : Value) (its : Itms) (ts : List ByteArray) : Prop where
  items : w.ownsRow B 84 2 vi its.length (cellsI its)
  pins : w.ownsRow B 9 1 vp ts.length (ts.map Value.string)
  apart : ∀ g, vi.ownBlock = some g → vp.ownBlock ≠ some g
theorem StoreOwn.none (w : World) (B : Nat) : StoreOwn w B (.slice .none 0 0) (.slice .none 0 0) [] [] := ⟨World.ownsRow_nil _ _ _ _, World.ownsRow_nil _ _ _ _, fun g e => by simp [Value.ownBlock] at e⟩
theorem StoreOwn.below {w w' : World} {B : Nat} {vi vp : Value} {its : Itms} {ts : List ByteArray} (h : StoreOwn w B vi vp its ts) (hb : Below w.heap.size w w') : StoreOwn w' B vi vp its ts :=
  ⟨h.items.kept (grown_of_below hb) (by cases hv : vi.ownBlock <;> simp), Below.row hb h.pins, h.apart⟩
theorem StoreOwn.base {w : World} {B B' : Nat} {vi vp : Value} {its : Itms} {ts : List ByteArray} (h : StoreOwn w B vi vp its ts) (hb : B' ≤ B) : StoreOwn w B' vi vp its ts := ⟨ownsRow_base2 h.items hb, ownsRow_base2 h.pins hb, h.apart⟩
theorem StoreOwn.kept {w w' : World} {B k : Nat} {vi vp : Value} {its : Itms} {ts : List ByteArray} (h : StoreOwn w B vi vp its ts) (hg : w.grownBy w' (some k)) (hk : k < B) : StoreOwn w' B vi vp its ts :=
  ⟨h.items.kept hg (.inr fun e => by have := (h.items.lt _ e).1; omega), h.pins.kept hg (.inr fun e => by have := (h.pins.lt _ e).1; omega), h.apart⟩
theorem StoreOwn.rdi {w : World} {B : Nat} {vi vp : Value} {its : Itms} {ts : List ByteArray} (h : StoreOwn w B vi vp its ts) : RdI w vi its := by
  have hr := h.items
  rcases h.items with ⟨_, ⟨rfl, h0⟩ | ⟨g, cap, cur, rfl, hb, hg, _⟩⟩
  · have : its = [] := List.eq_nil_of_length_eq_zero h0
    subst this
    exact ⟨_, 0, rfl, fun i hi => absurd hi (by simp)⟩
  · refine ⟨_, cap, rfl, fun i hi => ⟨g, 0, rfl, (Array.getElem?_eq_some_iff.1 hg).1, ?_, ?_⟩⟩
    · rw [Nat.zero_add, hr.cellAt _ (by omega)]; exact (cellsI_at its i hi).1
    · rw [Nat.zero_add, hr.cellAt _ (by omega)]; exact (cellsI_at its i hi).2
/-- What Get answers. -/
def GetOk (wd room : Int) (its : Itms) (ts : List ByteArray) (s : ByteArray) (now : Int) : Prop := ValidSt wd room its ts ∧ (0 ≤ now ∧ now ≤ 1000000) ∧ ∃ i, i < its.length ∧ sumX wd (itx its i) = s
def GetR (wd room : Int) (its : Itms) (ts : List ByteArray) (s : ByteArray) (now : Int) (x : ByteArray) (wd' room' : Int) (its' : Itms) (ts' : List ByteArray) (b : Bool) : Prop :=
  (x = ⟨#[]⟩ ∧ wd' = 0 ∧ room' = 0 ∧ its' = [] ∧ ts' = [] ∧ b = false ∧ ¬ GetOk wd room its ts s now) ∨
  (b = true ∧ wd' = wd ∧ room' = room ∧ ts' = ts ∧ GetOk wd room its ts s now ∧ ∃ i, i < its.length ∧ sumX wd (itx its i) = s ∧ x = itx its i ∧ its' = its.set i (itx its i, now))
end Go.Proofs.YtlnkhbnbcmllaaaGreat
/- slices.Sorted of maps.Keys of the map of items, laid at this program. -/
namespace Go.Proofs.YtlnkhbnbcmllaaaGreat
open Go.RowKit Go.Maps Go.Sort Go.Shelf
def kRen7 : Go.Shelf.Ren := ⟨fun | 7 => 86 | 10 => 93 | n => n, fun | 23 => 107 | 26 => 9 | 3 => 84 | 28 => 132 | 0 => 0 | 27 => 131 | 33 => 129 | 4 => 4 | n => n, fun | n => n⟩
theorem kLays7 : SlLaysZ.n7 Tryz.prog kRen7 where
  mixed := by kernel_rfl
  f7 := ⟨Tryz.f86.name, by kernel_rfl, Tryz.func86.trans (congrArg some (by kernel_rfl))⟩
  f10 := ⟨Tryz.f93.name, by kernel_rfl, Tryz.func93.trans (congrArg some (by kernel_rfl))⟩
  t0 := by kernel_rfl
  a0 := fun _ => by kernel_rfl
  z0 := fun _ => by kernel_rfl
  v0 := fun _ => by kernel_rfl
  t4 := by kernel_rfl
  a4 := fun _ => by kernel_rfl
  z4 := fun _ => by kernel_rfl
  v4 := fun _ => by kernel_rfl
  t23 := by kernel_rfl
  a23 := fun _ => by kernel_rfl
  z23 := fun _ => by kernel_rfl
  v23 := fun _ => by kernel_rfl
  t26 := by kernel_rfl
  a26 := fun _ => by kernel_rfl
  z26 := fun _ => by kernel_rfl
  v26 := fun _ => by kernel_rfl
  t27 := by kernel_rfl
  a27 := fun _ => by kernel_rfl
  z27 := fun _ => by kernel_rfl
  v27 := fun _ => by kernel_rfl
  t28 := by kernel_rfl
  a28 := fun _ => by kernel_rfl
  z28 := fun _ => by kernel_rfl
  v28 := fun _ => by kernel_rfl
  t33 := by kernel_rfl
  a33 := fun _ => by kernel_rfl
  z33 := fun _ => by kernel_rfl
  v33 := fun _ => by kernel_rfl
def kRen6 : Go.Shelf.Ren := ⟨fun | 6 => 85 | 8 => 91 | 9 => 92 | 11 => 95 | 13 => 97 | 12 => 96 | 23 => 108 | 24 => 109 | 14 => 99 | 15 => 100 | 16 => 101 | 17 => 102 | 18 => 103 | 19 => 104 | 20 => 105 | 21 => 106 | 22 => 107 | 25 => 110 | 26 => 111 | 27 => 112 | 28 => 113 | 29 => 114 | 30 => 115 | 31 => 116 | n => n, fun | 26 => 9 | 28 => 132 | 24 => 23 | 0 => 0 | 3 => 3 | 37 => 142 | 48 => 157 | 50 => 121 | 4 => 4 | 40 => 149 | 39 => 148 | 45 => 154 | 5 => 5 | 9 => 9 | 51 => 159 | 55 => 163 | 57 => 165 | 58 => 166 | 33 => 129 | n => n, fun | n => n⟩
theorem kLays6 : SlLaysZ.n6 Tryz.prog kRen6 where
  mixed := by kernel_rfl
  f6 := ⟨Tryz.f85.name, by kernel_rfl, Tryz.func85.trans (congrArg some (by kernel_rfl))⟩
  f8 := ⟨Tryz.f91.name, by kernel_rfl, Tryz.func91.trans (congrArg some (by kernel_rfl))⟩
  f11 := ⟨Tryz.f95.name, by kernel_rfl, Tryz.func95.trans (congrArg some (by kernel_rfl))⟩
  t0 := by kernel_rfl
  a0 := fun _ => by kernel_rfl
  z0 := fun _ => by kernel_rfl
  v0 := fun _ => by kernel_rfl
  t24 := by kernel_rfl
  a24 := fun _ => by kernel_rfl
  z24 := fun _ => by kernel_rfl
  v24 := fun _ => by kernel_rfl
  t26 := by kernel_rfl
  a26 := fun _ => by kernel_rfl
  z26 := fun _ => by kernel_rfl
  v26 := fun _ => by kernel_rfl
  t28 := by kernel_rfl
  a28 := fun _ => by kernel_rfl
  z28 := fun _ => by kernel_rfl
  v28 := fun _ => by kernel_rfl
  i26 := by kernel_rfl
def kRenM : Go.Shelf.Ren := ⟨fun | 6 => 92 | 8 => 97 | 9 => 96 | 19 => 108 | 20 => 109 | 21 => 99 | 22 => 100 | 23 => 101 | 24 => 102 | 25 => 103 | 26 => 104 | 27 => 105 | 28 => 106 | 29 => 107 | 36 => 110 | 31 => 111 | 32 => 112 | 37 => 113 | 38 => 114 | 39 => 115 | 41 => 116 | n => n, fun | 27 => 23 | 29 => 9 | 3 => 3 | 32 => 142 | 26 => 23 | 0 => 0 | 44 => 157 | 46 => 121 | 4 => 4 | 36 => 149 | 35 => 148 | 41 => 154 | 5 => 5 | 9 => 9 | 53 => 159 | 57 => 163 | 63 => 165 | 64 => 166 | n => n, fun | n => n⟩
theorem kLaysM : SlLaysM.n6 Tryz.prog kRenM where
  mixed := by kernel_rfl
  f6 := ⟨Tryz.f92.name, by kernel_rfl, Tryz.func92.trans (congrArg some (by kernel_rfl))⟩
  f8 := by kernel_rfl
  f9 := ⟨Tryz.f96.name, by kernel_rfl, Tryz.func96.trans (congrArg some (by kernel_rfl))⟩
  f19 := by kernel_rfl
  f20 := by kernel_rfl
  f21 := ⟨Tryz.f99.name, by kernel_rfl, Tryz.func99.trans (congrArg some (by kernel_rfl))⟩
  f22 := ⟨Tryz.f100.name, by kernel_rfl, Tryz.func100.trans (congrArg some (by kernel_rfl))⟩
  f23 := ⟨Tryz.f101.name, by kernel_rfl, Tryz.func101.trans (congrArg some (by kernel_rfl))⟩
  f24 := ⟨Tryz.f102.name, by kernel_rfl, Tryz.func102.trans (congrArg some (by kernel_rfl))⟩
  f25 := ⟨Tryz.f103.name, by kernel_rfl, Tryz.func103.trans (congrArg some (by kernel_rfl))⟩
  f26 := ⟨Tryz.f104.name, by kernel_rfl, Tryz.func104.trans (congrArg some (by kernel_rfl))⟩
  f27 := ⟨Tryz.f105.name, by kernel_rfl, Tryz.func105.trans (congrArg some (by kernel_rfl))⟩
  f28 := ⟨Tryz.f106.name, by kernel_rfl, Tryz.func106.trans (congrArg some (by kernel_rfl))⟩
  f29 := ⟨Tryz.f107.name, by kernel_rfl, Tryz.func107.trans (congrArg some (by kernel_rfl))⟩
  f31 := by kernel_rfl
  f32 := by kernel_rfl
  f36 := ⟨Tryz.f110.name, by kernel_rfl, Tryz.func110.trans (congrArg some (by kernel_rfl))⟩
  f37 := ⟨Tryz.f113.name, by kernel_rfl, Tryz.func113.trans (congrArg some (by kernel_rfl))⟩
  f38 := ⟨Tryz.f114.name, by kernel_rfl, Tryz.func114.trans (congrArg some (by kernel_rfl))⟩
  f39 := ⟨Tryz.f115.name, by kernel_rfl, Tryz.func115.trans (congrArg some (by kernel_rfl))⟩
  f41 := ⟨Tryz.f116.name, by kernel_rfl, Tryz.func116.trans (congrArg some (by kernel_rfl))⟩
  t0 := by kernel_rfl
  a0 := fun _ => by kernel_rfl
  z0 := fun _ => by kernel_rfl
  v0 := fun _ => by kernel_rfl
  t3 := by kernel_rfl
  a3 := fun _ => by kernel_rfl
  z3 := fun _ => by kernel_rfl
  v3 := fun _ => by kernel_rfl
  t4 := by kernel_rfl
  a4 := fun _ => by kernel_rfl
  z4 := fun _ => by kernel_rfl
  v4 := fun _ => by kernel_rfl
  t5 := by kernel_rfl
  a5 := fun _ => by kernel_rfl
  z5 := fun _ => by kernel_rfl
  v5 := fun _ => by kernel_rfl
  t9 := by kernel_rfl
  a9 := fun _ => by kernel_rfl
  z9 := fun _ => by kernel_rfl
  v9 := fun _ => by kernel_rfl
  t26 := by kernel_rfl
  a26 := fun _ => by kernel_rfl
  z26 := fun _ => by kernel_rfl
  v26 := fun _ => by kernel_rfl
  t27 := by kernel_rfl
  a27 := fun _ => by kernel_rfl
  z27 := fun _ => by kernel_rfl
  v27 := fun _ => by kernel_rfl
  t29 := by kernel_rfl
  a29 := fun _ => by kernel_rfl
  z29 := fun _ => by kernel_rfl
  v29 := fun _ => by kernel_rfl
  t32 := by kernel_rfl
  a32 := fun _ => by kernel_rfl
  z32 := fun _ => by kernel_rfl
  v32 := fun _ => by kernel_rfl
  t35 := by kernel_rfl
  a35 := fun _ => by kernel_rfl
  z35 := fun _ => by kernel_rfl
  v35 := fun _ => by kernel_rfl
  t36 := by kernel_rfl
  a36 := fun _ => by kernel_rfl
  z36 := fun _ => by kernel_rfl
  v36 := fun _ => by kernel_rfl
  t41 := by kernel_rfl
  a41 := fun _ => by kernel_rfl
  z41 := fun _ => by kernel_rfl
  v41 := fun _ => by kernel_rfl
  t44 := by kernel_rfl
  a44 := fun _ => by kernel_rfl
  z44 := fun _ => by kernel_rfl
  v44 := fun _ => by kernel_rfl
  t46 := by kernel_rfl
  a46 := fun _ => by kernel_rfl
  z46 := fun _ => by kernel_rfl
  v46 := fun _ => by kernel_rfl
  t53 := by kernel_rfl
  a53 := fun _ => by kernel_rfl
  z53 := fun _ => by kernel_rfl
  v53 := fun _ => by kernel_rfl
  t57 := by kernel_rfl
  a57 := fun _ => by kernel_rfl
  z57 := fun _ => by kernel_rfl
  v57 := fun _ => by kernel_rfl
  t63 := by kernel_rfl
  a63 := fun _ => by kernel_rfl
  z63 := fun _ => by kernel_rfl
  v63 := fun _ => by kernel_rfl
  t64 := by kernel_rfl
  a64 := fun _ => by kernel_rfl
  z64 := fun _ => by kernel_rfl
  v64 := fun _ => by kernel_rfl
theorem kSorts (m : Nat) : AnyZ.SortsIn Tryz.prog kRen6 Fence.wide m :=
  ⟨fun blk off cap ss W hH hblk hsz => callsIn_wide.2 (AnyM.slices_Sort_string kLaysM blk off cap ss W hH hblk hsz),
   fun p cap W => callsIn_wide.2 (AnyM.slices_Sort_string_none kLaysM p cap W)⟩
theorem kKeys (mb : Option Nat) (W : World) : CallsIn Fence.wide 5 Tryz.prog 86 #[.map mb] W fun e w' => e = .returned (.func (.func 93) #[] #[.pointer (some ⟨W.heap.size, 0, none⟩)]) ∧ w' = W.alloc (.cells #[.map mb] 107) :=
  AnyZ.keys_in kLays7 Fence.wide 5 trivial rfl mb W
set_option maxHeartbeats 1000000 in
theorem kSorted {H : Type} (b nn : Nat) (D0 : DataW H) (R : Value → Option (DataW H × List MemPlace)) (w : World) (hown : w.ownsMap Tryz.prog 9 R b nn D0) (hmax : Maps.size D0 ≤ maxLen) (hbytes : Maps.size D0 * 16 ≤ 140737488355328) :
    CallsIn Fence.wide 5 Tryz.prog 85 #[.func (.func 93) #[] #[.pointer (some ⟨w.heap.size, 0, none⟩)]] (w.alloc (.cells #[.map (some b)] 107)) fun e w' => ∃ (v : Value) (ss : List (List UInt8)), e = .returned v ∧ ss.Perm (strKeys D0) ∧
      w'.ownsRow (w.alloc (.cells #[.map (some b)] 107)).heap.size 9 1 v ss.length ((ss.mergeSort (fun x y => decide (x ≤ y))).map encStr) ∧ (v = .slice none 0 0 ↔ ss = []) ∧ Below (w.alloc (.cells #[.map (some b)] 107)).heap.size (w.alloc (.cells #[.map (some b)] 107)) w' := by
  have hbl := hown.lt
  have hseq : SeqGives Fence.wide 2 Tryz.prog 93 #[.pointer (some ⟨w.heap.size, 0, none⟩)] encStr (fun ss => ss.Perm (strKeys D0)) (Maps.size D0) (w.alloc (.cells #[.map (some b)] 107)) :=
    AnyZ.keys_gives (ρ := kRen7) { kLays7 with } Fence.wide _ trivial rfl (by omega) w.heap.size b nn D0 _ (by simp) (by simp) (by
      obtain ⟨es, clock, hb, Ft, hs, hD⟩ := hown
      exact ⟨es, clock, (Below.heap_alloc _ _ b hbl).trans hb, Ft, hs, hD⟩)
  exact AnyZ.sorted_in kLays6 Fence.wide 5 trivial trivial trivial trivial rfl (by omega) (kSorts _) (enters_of Tryz.func92 (by kernel_rfl) rfl) 93 #[.pointer (some ⟨w.heap.size, 0, none⟩)] trivial (enters_of Tryz.func93 (by kernel_rfl) rfl) _ _ hmax hbytes _ hseq
theorem keysOK : KeysOK := by
  refine ⟨fun mb W => callsIn_wide.1 (kKeys (some mb) W), fun b nn D w hown ht S hS hm hl => ?_⟩
  have hsz : Maps.size D = S.length := by
    obtain ⟨es, rfl, he⟩ := ht
    have hk : ∀ p ∈ es, ∃ x, p.1 = .string x := by
      obtain ⟨es', e', hk'⟩ := hown.keysOf
      cases e'
      intro p hp
      obtain ⟨key, hkey⟩ := hk' p hp
      obtain ⟨x, _, h2, _⟩ := Maps.keyOf_str Tryz.underlying9 hkey
      exact ⟨x, h2⟩
    have hnd : S.Nodup := hS.imp fun h e => by subst e; exact List.lt_irrefl _ h
    have := (perm_strKeys he hk hnd hm).length_eq
    rw [this]
    simp [Maps.size, strKeys]
  refine (callsIn_wide.1 (kSorted b nn D itemElem w hown (by rw [hsz]; unfold maxLen; omega) (by omega))).mono ?_
  rintro e w' ⟨v, ss, rfl, hp, hrow, _, hb⟩
  have hso := sorted_keys hown ht hS hm hp
  have hln : ss.length = S.length := by rw [← hso, List.length_mergeSort]
  rw [hso, hln, World.size_alloc] at hrow
  rw [World.size_alloc] at hb
  exact ⟨v, rfl, hrow, hb⟩
end Go.Proofs.YtlnkhbnbcmllaaaGreat
/- impl.Get. -/
namespace Go.Proofs.YtlnkhbnbcmllaaaGreat
open Go.RowKit Go.Sort
theorem sums_inj {n : Int} {its : Itms} (hN : (sumsL n its).Pairwise (· < ·)) {i j : Nat} (hi : i < its.length) (hj : j < its.length) (h : (sumX n (itx its i)).data.toList = (sumX n (itx its j)).data.toList) : i = j := by
  obtain ⟨_, g1⟩ := List.getElem_of_getElem? (sumsL_get n its i hi)
  obtain ⟨_, g2⟩ := List.getElem_of_getElem? (sumsL_get n its j hj)
  rcases Nat.lt_trichotomy i j with hl | hl | hl
  · have h1 := List.pairwise_iff_getElem.1 hN i j (by rw [sumsL_len]; omega) (by rw [sumsL_len]; omega) hl
    rw [g1, g2, h] at h1
    exact absurd h1 (List.lt_irrefl _)
  · exact hl
  · have h1 := List.pairwise_iff_getElem.1 hN j i (by rw [sumsL_len]; omega) (by rw [sumsL_len]; omega) hl
    rw [g1, g2, h] at h1
    exact absurd h1 (List.lt_irrefl _)
end Go.Proofs.YtlnkhbnbcmllaaaGreat
