import Derived.Test.YtkghbegdjeehaaaGreatDoorHeapRow
import Derived.Test.YtkghbegdjeehaaaGreatDoorShort
import Derived.BigRegion
import Derived.Test.YtkghbegdjeehaaaGreatDoorNeedImpl
import Derived.Maps.RangeWalk
import Derived.Sort.MapsRangeIn
import Derived.Maps.Ext
import Derived.ChangeMaps
import Derived.Test.YtkghbegdjeehaaaGreatDoorUnpinSpec
/- impl.leavesFirst and (*impl.heap).push. -/
namespace Go.Proofs.YtkghbegdjeehaaaGreatDoor
open Go.RowKit
end Go.Proofs.YtkghbegdjeehaaaGreatDoor
/- (*impl.heap).push. -/
namespace Go.Proofs.YtkghbegdjeehaaaGreatDoor
open Go.RowKit
end Go.Proofs.YtkghbegdjeehaaaGreatDoor
/- (*impl.heap).sink. -/
namespace Go.Proofs.YtkghbegdjeehaaaGreatDoor
open Go.RowKit
/-- The least of a place and the first of what stands below it. -/
structure LeastOf (hs : List Lv) (k b m : Nat) : Prop where
 wh : m = k ∨ (0 < m ∧ m < hs.length ∧ (m - 1) / 2 = k ∧ m < b ∧ lfB (hv hs m) (hv hs k) = true)
 all : ∀ c, 2 * k + 1 ≤ c → c < b → c < hs.length → lfB (hv hs c) (hv hs m) = false
theorem LeastOf.start (hs : List Lv) (k : Nat) : LeastOf hs k (2 * k + 1) k := ⟨.inl rfl, fun c h1 h2 => by omega⟩
end Go.Proofs.YtkghbegdjeehaaaGreatDoor
/- (*impl.heap).pop. -/
namespace Go.Proofs.YtkghbegdjeehaaaGreatDoor
open Go.RowKit
end Go.Proofs.YtkghbegdjeehaaaGreatDoor
/- (*impl.shelf).leavers: the items that are not needed, in a heap. -/
namespace Go.Proofs.YtkghbegdjeehaaaGreatDoor
open Go.RowKit
/-- The heap of those that have come up so far. -/
structure Part (wd : Int) (Q : ByteArray → Prop) (its : Itms) (left : Lit → Bool) (hs : List Lv) : Prop where
 nodup : hs.Nodup
 mem : ∀ l, l ∈ hs ↔ ∃ p, p ∈ its ∧ ¬ Q (sumX wd p.1) ∧ l = lvOf wd p ∧ left (.string (sumX wd p.1).data.toList) = false
theorem mem_sumsL {wd : Int} {its : Itms} {p : ByteArray × Int} (h : p ∈ its) : (sumX wd p.1).data.toList ∈ sumsL wd its := List.mem_map.2 ⟨p, h, rfl⟩
theorem mapI_all (wd : Int) (its : Itms) (x : List UInt8) : Maps.has (mapI wd its its.length) (.string x) = true ↔ x ∈ sumsL wd its := by
 rw [mapI_has wd its x its.length (Nat.le_refl _)]
 rw [List.take_of_length_le (by rw [sumsL_len]; exact Nat.le_refl _)]
theorem Part.start (wd : Int) (Q : ByteArray → Prop) (its : Itms) : Part wd Q its (Maps.has (mapI wd its its.length)) [] := by
 refine ⟨List.nodup_nil, fun l => ⟨fun h => (by cases h), fun h => ?_⟩⟩
 obtain ⟨p, hp, _, _, h⟩ := h
 rw [(mapI_all wd its _).2 (mem_sumsL hp)] at h
 cases h
theorem same_str (a b : List UInt8) : (Lit.string a).sameKey (.string b) = (a == b) := rfl
theorem left_next {left : Lit → Bool} {a b : List UInt8} : (left (.string a) && !(Lit.string a).sameKey (.string b)) = false ↔ left (.string a) = false ∨ a = b := by
 rw [same_str]
 cases left (.string a) <;> simp
theorem Part.skip {wd : Int} {Q : ByteArray → Prop} {its : Itms} {left : Lit → Bool} {hs : List Lv} (h : Part wd Q its left hs) {x : ByteArray} (hx : Q x) : Part wd Q its (fun z => left z && !z.sameKey (.string x.data.toList)) hs := by
 refine ⟨h.nodup, fun l => (h.mem l).trans ?_⟩
 constructor
 ·rintro ⟨p, h1, h2, h3, h4⟩
  exact ⟨p, h1, h2, h3, left_next.2 (.inl h4)⟩
 ·rintro ⟨p, h1, h2, h3, h4⟩
  rcases left_next.1 h4 with h4 | h4
  ·exact ⟨p, h1, h2, h3, h4⟩
  ·rw [bytes_ext h4] at h2; exact absurd hx h2
theorem Part.done {wd : Int} {Q : ByteArray → Prop} {its : Itms} {left : Lit → Bool} {hs : List Lv} (h : Part wd Q its left hs) (hl : ∀ k, left k = false) : HeapIs wd Q its hs := ⟨h.nodup, fun l => (h.mem l).trans ⟨fun ⟨p, h1, h2, h3, _⟩ => ⟨p, h1, h2, h3⟩, fun ⟨p, h1, h2, h3⟩ => ⟨p, h1, h2, h3, hl _⟩⟩⟩
end Go.Proofs.YtkghbegdjeehaaaGreatDoor
/- A map of items is told by what it has: it is the map that the items are put into one by one. -/
namespace Go.Proofs.YtkghbegdjeehaaaGreatDoor
open Go.RowKit
/-! What has been given away -/
structure GoneR (wd : Int) (its its' : Itms) (gone : List ByteArray) : Prop where
 mem : ∀ p, p ∈ its' ↔ p ∈ its ∧ sumX wd p.1 ∉ gone
theorem GoneR.start (wd : Int) (its : Itms) : GoneR wd its its [] := ⟨fun p => by simp⟩
theorem GoneR.step {wd : Int} {its its' : Itms} {gone : List ByteArray} (hN : (sumsL wd its').Pairwise (· < ·)) (h : GoneR wd its its' gone) {i : Nat} (hi : i < its'.length) : GoneR wd its (its'.eraseIdx i) (gone ++ [sumX wd (itx its' i)]) := by
 refine ⟨fun p => ?_⟩
 rw [mem_erase hN i hi, h.mem]
 rw [List.mem_append, List.mem_singleton]
 constructor
 ·rintro ⟨⟨h1, h2⟩, h3⟩
  refine ⟨h1, fun e => e.elim h2 fun e => h3 ?_⟩
  have hp : p ∈ its' := (h.mem p).2 ⟨h1, h2⟩
  obtain ⟨j, hj, rfl⟩ := List.getElem_of_mem hp
  have := sums_inj (n := wd) hN hj hi (by rw [itx_get its' j hj, e])
  subst this
  rfl
 ·rintro ⟨h1, h2⟩
  refine ⟨⟨h1, fun e => h2 (.inl e)⟩, fun e => h2 (.inr ?_)⟩
  rw [e, itx_get its' i hi]
end Go.Proofs.YtkghbegdjeehaaaGreatDoor
/- impl.hasRoom and (*impl.shelf).makeRoom. -/
namespace Go.Proofs.YtkghbegdjeehaaaGreatDoor
open Go.RowKit
end Go.Proofs.YtkghbegdjeehaaaGreatDoor
/- An item put in among items, and into their map. -/
namespace Go.Proofs.YtkghbegdjeehaaaGreatDoor
open Go.RowKit
abbrev AscI (wd : Int) (its : Itms) : Prop := Asc (its.map fun p => sumX wd p.1)
theorem AscI.lt {wd : Int} {its : Itms} (h : AscI wd its) : (sumsL wd its).Pairwise (· < ·) := by
 have := List.Pairwise.map (f := fun b : ByteArray => b.data.toList) (S := (· < ·)) (fun a b hab => tlt_lt hab) h
 simpa [sumsL, Function.comp_def] using this
theorem ascI_of {wd : Int} {its : Itms} (h : ∀ i, i < its.length → itemOk wd its i) : AscI wd its := by
 refine asc_of _ fun i h0 hi => ?_
 have hl : i < its.length := by simpa using hi
 have h1 := (h i hl).2.2 h0
 have e : ∀ j, j < its.length → tv (its.map fun p => sumX wd p.1) j = sumX wd (itx its j) := fun j hj => by simp [tv, itx, hj]
 rw [e i hl, e (i - 1) (by omega)]
 exact h1
theorem AscI.sub {wd : Int} {a b : Itms} (h : AscI wd b) (hs : a.Sublist b) : AscI wd a := List.Pairwise.sublist (hs.map _) h
theorem ins_map (wd : Int) (its : Itms) (t : ByteArray) (now : Int) (hn : ∀ p, p ∈ its → sumX wd p.1 ≠ sumX wd t) : (insI wd its t now).map (fun p => sumX wd p.1) = putT (sumX wd t) (its.map fun p => sumX wd p.1) := by
 unfold insI putT
 rw [if_neg]
 ·rw [List.map_append, List.map_cons, List.map_take, List.map_drop]
  rfl
 ·rintro ⟨h1, h2⟩
  have hl : cutN (sumX wd t) (its.map fun p => sumX wd p.1) < its.length := by simpa using h1
  refine hn _ (List.getElem_mem hl) (Eq.trans ?_ h2)
  simp [tv, hl]
theorem ins_asc {wd : Int} {its : Itms} {t : ByteArray} {now : Int} (h : AscI wd its) (hn : ∀ p, p ∈ its → sumX wd p.1 ≠ sumX wd t) : AscI wd (insI wd its t now) := by
 unfold AscI
 rw [ins_map wd its t now hn]
 exact putT_asc h
theorem ins_mem (wd : Int) (its : Itms) (t : ByteArray) (now : Int) (p : ByteArray × Int) : p ∈ insI wd its t now ↔ p = (t, now) ∨ p ∈ its := by
 unfold insI
 constructor
 ·intro h
  rcases List.mem_append.1 h with h | h
  ·exact .inr (List.mem_of_mem_take h)
  ·rcases List.mem_cons.1 h with h | h
   ·exact .inl h
   ·exact .inr (List.mem_of_mem_drop h)
 ·rintro (rfl | h)
  ·simp
  ·rw [← List.take_append_drop (cutI wd (sumX wd t) its) its] at h
   rcases List.mem_append.1 h with h | h
   ·exact List.mem_append.2 (.inl h)
   ·exact List.mem_append.2 (.inr (List.mem_cons_of_mem _ h))
theorem ins_len (wd : Int) (its : Itms) (t : ByteArray) (now : Int) : (insI wd its t now).length = its.length + 1 := by
 unfold insI
 have h := congrArg List.length (List.take_append_drop (cutI wd (sumX wd t) its) its)
 rw [List.length_append] at h
 rw [List.length_append, List.length_cons]
 omega
theorem set_map (wd : Int) (its : Itms) (i : Nat) (t : ByteArray) (now : Int) (hi : i < its.length) (ht : itx its i = t) : (its.set i (t, now)).map (fun p => sumX wd p.1) = its.map fun p => sumX wd p.1 := by
 rw [List.map_set]
 apply List.ext_getElem?
 intro j
 by_cases e : i = j
 ·subst e
  rw [List.getElem?_set_self (by simpa using hi), List.getElem?_map, List.getElem?_eq_getElem hi]
  simp [← ht, itx, hi]
 ·rw [List.getElem?_set_ne e]
end Go.Proofs.YtkghbegdjeehaaaGreatDoor
/- (*impl.shelf).put. -/
namespace Go.Proofs.YtkghbegdjeehaaaGreatDoor
open Go.RowKit
end Go.Proofs.YtkghbegdjeehaaaGreatDoor
/- impl.Put. -/
namespace Go.Proofs.YtkghbegdjeehaaaGreatDoor
open Go.RowKit
theorem PutI.mem {wd room : Int} {Q : ByteArray → Prop} {its : Itms} {t : ByteArray} {now c : Int} {a : Itms} (h : PutI wd room Q its t now c a) : ∀ p, p ∈ a → p = (t, now) ∨ p ∈ its := by
 cases h with
 | there i hi hs ht => exact fun p hp => (List.mem_or_eq_of_mem_set hp).symm
 | other => exact fun p hp => .inr hp
 | put k b hn hw => exact fun p hp => ((ins_mem wd b t now p).1 hp).imp id (fun h => hw.sub.subset h)
 | full => exact fun p hp => .inr hp
theorem PutI.len {wd room : Int} {Q : ByteArray → Prop} {its : Itms} {t : ByteArray} {now c : Int} {a : Itms} (h : PutI wd room Q its t now c a) : a.length ≤ its.length + 1 := by
 cases h with
 | there i hi hs ht => rw [List.length_set]; omega
 | other => omega
 | put k b hn hw => rw [ins_len]; have := hw.len; omega
 | full => omega
theorem PutI.size {wd room : Int} {Q : ByteArray → Prop} {its : Itms} {t : ByteArray} {now c : Int} {a : Itms} (h : PutI wd room Q its t now c a) {n : Nat} (ht : t.size ≤ n) (hs : ∀ i, (itx its i).size ≤ n) (i : Nat) : (itx a i).size ≤ n := by
 by_cases hi : i < a.length
 ·rw [itx_get a i hi]
  rcases h.mem _ (List.getElem_mem hi) with e | e
  ·rw [e]; exact ht
  ·obtain ⟨j, hj, he⟩ := List.getElem_of_mem e
   have := hs j
   rw [itx_get its j hj, he] at this
   exact this
 ·unfold itx
  rw [List.getD_eq_getElem?_getD, List.getElem?_eq_none (by omega)]
  show (0 : Nat) ≤ n
  omega
theorem PutI.asc {wd room : Int} {Q : ByteArray → Prop} {its : Itms} {t : ByteArray} {now c : Int} {a : Itms} (h : PutI wd room Q its t now c a) (hA : AscI wd its) : AscI wd a := by
 cases h with
 | there i hi hs ht => unfold AscI; rw [set_map wd its i t now hi ht]; exact hA
 | other => exact hA
 | put k b hn hw =>
  refine ins_asc (hA.sub hw.sub) fun p hp => ?_
  obtain ⟨i, hi, rfl⟩ := List.getElem_of_mem (hw.sub.subset hp)
  rw [← itx_get its i hi]
  exact hn i hi
 | full => exact hA
end Go.Proofs.YtkghbegdjeehaaaGreatDoor
