import Derived.Test.YtkjdabnglcabiaaGreatDoorHeapPop
import Derived.Test.YtkjdabnglcabiaaGreatDoorNeedImpl
import Derived.Maps.RangeWalk
import Derived.Sort.MapsRangeIn
import Derived.Maps.Ext
import Derived.ChangeMaps
/- (*impl.shelf).leavers: the items that are not needed, in a heap. -/
namespace Go.Proofs.YtkjdabnglcabiaaGreatDoor
open Go.RowKit
/-- The heap of those that have come up so far. -/
structure Part (wd : Int) (Q : ByteArray → Prop) (its : Itms) (left : Lit → Bool) (hs : List Lv) : Prop where
 nodup : hs.Nodup
 mem : ∀ l, l ∈ hs ↔ ∃ p, p ∈ its ∧ ¬ Q (sumX wd p.1) ∧ l = lvOf wd p ∧ left (.string (sumX wd p.1).data.toList) = false
theorem mem_sumsL {wd : Int} {its : Itms} {p : ByteArray × Int} (h : p ∈ its) : (sumX wd p.1).data.toList ∈ sumsL wd its := List.mem_map.2 ⟨p, h, rfl⟩
theorem mapI_all (wd : Int) (its : Itms) (x : List UInt8) : Maps.has (mapI wd its its.length) (.string x) = true ↔ x ∈ sumsL wd its := by
 rw [mapI_has wd its x its.length (Nat.le_refl _)]
 rw [List.take_of_length_le (by rw [sumsL_len]; exact Nat.le_refl _)]
theorem Part.start (wd : Int) (Q : ByteArray → Prop) (its : Itms) : Part wd Q its (Maps.has (mapI wd its its.length)) [] := by
 refine ⟨List.nodup_nil, fun l => ⟨fun h => (by cases h), fun h => ?_⟩⟩
 obtain ⟨p, hp, _, _, h⟩ := h
 rw [(mapI_all wd its _).2 (mem_sumsL hp)] at h
 cases h
theorem same_str (a b : List UInt8) : (Lit.string a).sameKey (.string b) = (a == b) := rfl
theorem left_next {left : Lit → Bool} {a b : List UInt8} : (left (.string a) && !(Lit.string a).sameKey (.string b)) = false ↔ left (.string a) = false ∨ a = b := by
 rw [same_str]
 cases left (.string a) <;> simp
theorem Part.skip {wd : Int} {Q : ByteArray → Prop} {its : Itms} {left : Lit → Bool} {hs : List Lv} (h : Part wd Q its left hs) {x : ByteArray} (hx : Q x) : Part wd Q its (fun z => left z && !z.sameKey (.string x.data.toList)) hs := by
 refine ⟨h.nodup, fun l => (h.mem l).trans ?_⟩
 constructor
 ·rintro ⟨p, h1, h2, h3, h4⟩
  exact ⟨p, h1, h2, h3, left_next.2 (.inl h4)⟩
 ·rintro ⟨p, h1, h2, h3, h4⟩
  rcases left_next.1 h4 with h4 | h4
  ·exact ⟨p, h1, h2, h3, h4⟩
  ·rw [bytes_ext h4] at h2; exact absurd hx h2
theorem Part.push {wd : Int} {Q : ByteArray → Prop} {its : Itms} {left : Lit → Bool} {hs hs' : List Lv} (hN : (sumsL wd its).Pairwise (· < ·)) (h : Part wd Q its left hs) {q : ByteArray × Int} (hq : q ∈ its) (hx : ¬ Q (sumX wd q.1)) (hl : left (.string (sumX wd q.1).data.toList) = true) (hp : hs'.Perm (lvOf wd q :: hs)) : Part wd Q its (fun z => left z && !z.sameKey (.string (sumX wd q.1).data.toList)) hs' := by
 refine ⟨hp.nodup_iff.2 (List.nodup_cons.2 ⟨fun hm => ?_, h.nodup⟩), fun l => ?_⟩
 ·obtain ⟨p, h1, _, h3, h4⟩ := (h.mem _).1 hm
  rw [lvOf_inj hN hq h1 h3] at hl
  rw [hl] at h4; cases h4
 ·rw [hp.mem_iff, List.mem_cons, h.mem]
  constructor
  ·rintro (rfl | ⟨p, h1, h2, h3, h4⟩)
   ·exact ⟨q, hq, hx, rfl, left_next.2 (.inr rfl)⟩
   ·exact ⟨p, h1, h2, h3, left_next.2 (.inl h4)⟩
  ·rintro ⟨p, h1, h2, h3, h4⟩
   rcases left_next.1 h4 with h4 | h4
   ·exact .inr ⟨p, h1, h2, h3, h4⟩
   ·left
    rw [h3]
    obtain ⟨i, hi, rfl⟩ := List.getElem_of_mem h1
    obtain ⟨j, hj, rfl⟩ := List.getElem_of_mem hq
    have := sums_inj (n := wd) hN hi hj (by rw [itx_get its i hi, itx_get its j hj, h4])
    subst this
    rfl
theorem Part.done {wd : Int} {Q : ByteArray → Prop} {its : Itms} {left : Lit → Bool} {hs : List Lv} (h : Part wd Q its left hs) (hl : ∀ k, left k = false) : HeapIs wd Q its hs := ⟨h.nodup, fun l => (h.mem l).trans ⟨fun ⟨p, h1, h2, h3, _⟩ => ⟨p, h1, h2, h3⟩, fun ⟨p, h1, h2, h3⟩ => ⟨p, h1, h2, h3, hl _⟩⟩⟩
/-- Every element of the map of items is an item. -/
theorem itemElem_form (v : Value) (y : DataW Unit × List MemPlace) (h : itemElem v = some y) : ∃ c : ByteArray × Int, v = .agg #[.string c.1, .int .i64 c.2] := by
 unfold itemElem at h
 split at h
 ·split at h
  ·next cs t u e =>
   refine ⟨(t, u), ?_⟩
   congr 1
   exact Array.toList_inj.1 (by rw [e])
  ·cases h
 ·cases h
theorem entry_item {wd : Int} {its : Itms} (hN : (sumsL wd its).Pairwise (· < ·)) {x ct : ByteArray} {cu : Int} {kl : Lit} {yd : DataW Unit} {yp : List MemPlace} (hkey : keyOf Tryz.prog 9 (.string x) = some kl) (hhas : Maps.has (mapI wd its its.length) kl = true) (hv : itemElem (.agg #[.string ct, .int .i64 cu]) = some (yd, yp)) (hat : ∀ zd, (mapI wd its its.length).atKey kl zd = yd) : (ct, cu) ∈ its ∧ sumX wd ct = x ∧ kl = .string x.data.toList ∧ x.size ≤ maxLen := by
 obtain ⟨xl, e1, rfl, hxl⟩ := Maps.keyOf_str Tryz.underlying9 hkey
 have ex : x.data.toList = xl := by
  have e2 : x = ⟨xl.toArray⟩ := by simpa [encStr] using e1
  rw [e2]
 have hm := (mapI_all wd its xl).1 hhas
 obtain ⟨p, hp, he⟩ := List.mem_map.1 hm
 obtain ⟨i, hi, rfl⟩ := List.getElem_of_mem hp
 have h1 := mapI_at wd its hN yd its.length (Nat.le_refl _) i hi
 have h2 := hat yd
 rw [← he, ← itx_get its i hi, h1] at h2
 rw [itemElem_mk] at hv
 have h3 := congrArg Prod.fst (Option.some.inj hv)
 rw [← h2] at h3
 have h4 : ct.data.toList = (itx its i).data.toList ∧ cu = itu its i := by simpa [datI] using h3
 have h5 : ct = itx its i := bytes_ext h4.1
 have h6 : (ct, cu) = its[i] := by rw [h5, h4.2, itx_get its i hi, itu_get its i hi]
 refine ⟨by rw [h6]; exact List.getElem_mem hi, ?_, by rw [ex], ?_⟩
 ·apply bytes_ext
  rw [ex, ← he, h5, itx_get its i hi]
 ·show x.data.size ≤ maxLen
  rw [← Array.length_toList, ex]
  exact hxl
theorem row_no_iter {w : World} {B : Nat} {v : Value} {hs : List Lv} (h : LRow w B v hs) {Pr : Program} {k : TypeId} {R : Value → Option (DataW Unit × List MemPlace)} {b r n : Nat} {D : DataW Unit} {left : Lit → Bool} {cnt : Nat} (hr : w.ranges Pr k R b r n D left cnt) : v.ownBlock ≠ some r := by
 intro e
 obtain ⟨es, clock, since, seen, c0, _, _, _, _, e5, _⟩ := hr
 obtain ⟨_, ⟨e1, _⟩ | ⟨g, cap, cur, e1, _, e3, _⟩⟩ := h
 ·subst e1; cases e
 ·subst e1
  obtain rfl : g = r := Option.some.inj e
  rw [e3] at e5; cases e5
set_option maxRecDepth 100000 in
set_option maxHeartbeats 8000000 in
theorem leavers_any (sb mb : Nat) (ac : Option Addr) (cc : Nat) (wd room tot : Int) (its : Itms) (ts : List ByteArray) (w : World) (hbox : Blk w sb 74 #[.int .i64 wd, .int .i64 room, .int .i64 tot, .map (some mb), .slice ac ts.length cc]) (hmap : w.ownsMap Tryz.prog 9 itemElem mb its.length (mapI wd its its.length)) (hrow : Reads w (.slice ac ts.length cc) ts) (hN : (sumsL wd its).Pairwise (· < ·)) (hli : its.length ≤ 1000) (hlp : ts.length ≤ 10) (hsp : ∀ i, (tv ts i).size ≤ 1048576) (hsi : ∀ i, (itx its i).size ≤ 1048576) (hW : wd ≤ 8) (hE : Errs w) :
  Calls Tryz.prog 87 #[.pointer (some ⟨sb, 0, none⟩)] w fun e w' => ∃ hb v hs, e = .returned (.pointer (some ⟨hb, 0, none⟩)) ∧ w.heap.size ≤ hb ∧ hb < w'.heap.size ∧ Blk w' hb 151 #[v, fFirst] ∧ LRow w' (hb + 1) v hs ∧ HpL hs ∧ HeapIs wd (NeedTo wd its ts ts.length) its hs ∧ hs.length ≤ 1000 ∧ Below w.heap.size w w' := by
 have HND := hid (needed_any sb mb ac cc wd room tot its ts w hbox hmap hrow hN hlp hsp hsi hW hE)
 have HBX := hid hbox
 have HMP := hid hmap
 have HNN := hid hN
 have hmbl := hmap.lt
 have hsbl := hbox.lt
 clear hbox hmap hrow hN hlp hsp hsi hE
 go_enter Tryz.func87, Tryz.ntmps87
 go_wp2_with fail
 refine HND.out.mono ?_
 rintro e w1 ⟨mb2, nn, Dn, rfl, hmn, hset, hmb2, hb1⟩
 have hs1 := hb1.size
 have hmb2l := hmn.lt
 have hA := hb1.alloc hs1 (.cells #[.slice none 0 0, fFirst] 151)
 have HX2 := hid (Blk.new w1 151 #[.slice none 0 0, fFirst])
 have HM2 := hid ((HMP.out.kept (grown_of_below hb1) (by simp)).alloc (.cells #[.slice none 0 0, fFirst] 151))
 have HN2 := hid (hmn.alloc (.cells #[.slice none 0 0, fFirst] 151))
 have HSB2 := (HBX.out.below hb1).alloc (.cells #[.slice none 0 0, fFirst] 151)
 have x3 : (w1.alloc (.cells #[.slice none 0 0, fFirst] 151)).cell? ⟨sb, 3, none⟩ = some (.map (some mb)) := HSB2.cell 3
 have HSET := hid hset
 have HA := hid hA
 have hmm := HM2.out
 clear hb1 hset hmn HSB2 hA
 go_wp2_with (at_range; refine wpList_range_own _ rfl _ 72 rfl 9 59 keyed9 Tryz.underlying72 _ mb its.length _ rfl hmm ?_; intro w3 hrg0 hg0 hs0)
 go_frame
 simp only [World.size_alloc]
 rw [World.size_alloc] at hrg0 hs0
 have HRG0 := hid hrg0
 have HG0 := hid (But.of_none (P := fun _ => False) hg0)
 have HSZ := hid hrg0.owns.size_le
 have hw3 : w1.heap.size + 2 ≤ w3.heap.size := by omega
 have hrl := hs0
 clear hmm hrg0 hg0 hs0 x3 hrl
 go_loopw [] (fun wr => ∃ (left : Lit → Bool) (cnt : Nat) (v : Value) (hs : List Lv), wr.ranges Tryz.prog 9 itemElem mb (w1.heap.size + 1) its.length (mapI wd its its.length) left cnt ∧ (∀ k, left k = true → Maps.has (mapI wd its its.length) k = true) ∧ hs.length + cnt ≤ its.length ∧ Part wd (NeedTo wd its ts ts.length) its left hs ∧ HpL hs ∧ Blk wr w1.heap.size 151 #[v, fFirst] ∧ LRow wr (w1.heap.size + 1) v hs ∧ wr.ownsMap Tryz.prog 9 unitE mb2 nn Dn ∧ Below w.heap.size w wr ∧ w1.heap.size + 2 ≤ wr.heap.size) (fun wr => wr.rangeLeft mb (w1.heap.size + 1))
 case atStart => exact ⟨_, _, .slice none 0 0, [], HRG0.out, fun _ h => h, by have := HSZ.out; simpa using this, Part.start _ _ _, fun i _ h => absurd h (by simp), HG0.out.blk HX2.out (fun h => h), LRow.nil _ _, HG0.out.map HN2.out (fun h => h), HA.out.trans ((HG0.out.below (B := w.heap.size) (by rw [World.size_alloc]; omega) (fun _ h => h.elim))), hw3⟩
 case round =>
  obtain ⟨left, cnt, v, hs, hrg, hsub, hcl, hpart, hhp, hbx, hrw, hnm, hbw, hsz⟩ := hrel
  have HRG := hid hrg
  have HSUB := hid hsub
  have HPART := hid hpart
  have HHP := hid hhp
  have HBXR := hid hbx
  have HRW := hid hrw
  have HNM := hid hnm
  have HBW := hid hbw
  clear hsub hpart hhp hbx hrw hnm hbw
  go_wp2_with (at_next; refine wpList_next_ranges _ rfl _ rfl 9 keyed9 itemElem Value.string (fun c : ByteArray × Int => .agg #[.string c.1, .int .i64 c.2]) (fun key kl h => Maps.keyOf_string_inv Tryz.underlying9 h) itemElem_form mb (w1.heap.size + 1) its.length _ _ _ (by go_simp) hrg ?_ ?_)
  ·intro hc0 hl0
   have HD := hid (HPART.out.done hl0)
   clear hl0 hrg
   go_wp2
   go_ret
   exact ⟨w1.heap.size, v, hs, rfl, by omega, by omega, HBXR.out, HRW.out, HHP.out, HD.out, by omega, HBW.out⟩
  ·intro x ct cu kl yd yp w4 cnt1 hkey hlk hv hat hrg1 hlt hg1 hs1 hen
   obtain ⟨hin, hsum, rfl, hxs⟩ := entry_item HNN.out hkey (HSUB.out _ hlk) hv hat
   have HRG1 := hid hrg1
   have HSUB1 : Hid (∀ k, (left k && !k.sameKey (.string x.data.toList)) = true → Maps.has (mapI wd its its.length) k = true) := hid fun k h => HSUB.out k (by rw [Bool.and_eq_true] at h; exact h.1)
   have hmr : mb2 ≠ w1.heap.size + 1 := by omega
   have M4 := HNM.out.kept hg1 (fun e => hmr (Option.some.inj e))
   have HM4 := hid M4
   have hm5 := M4.alloc (.cells #[.string ct, .int .i64 cu] 59)
   have hri := row_no_iter HRW.out HRG.out
   have HR4 := hid (HRW.out.far hg1 hri)
   have HX4 := hid (HBXR.out.kept hg1 (fun e => by have e' : w1.heap.size = w1.heap.size + 1 := Option.some.inj e; omega))
   have HB4 : Hid (Below w.heap.size w w4) := hid (HBW.out.trans ⟨hg1.os, hg1.tape, hg1.output, hg1.size, fun k hk => hg1.block k (by have := HBW.out.size; omega) (fun e => by have e' : k = w1.heap.size + 1 := Option.some.inj e; omega)⟩)
   have HIN := hid hin
   have HSM := hid hsum
   have HLK := hid hlk
   have hRW := hrg1.owns.lt
   clear hkey hlk hv hat hrg1 hg1 hin hsum hrg M4 hri hRW
   by_cases hq : NeedTo wd its ts ts.length x
   ·have hhas : Maps.has Dn (.string x.data.toList) = true := (HSET.out.has x).2 hq
    have HP1 := hid (HPART.out.skip hq)
    clear hq
    go_wp2_with (at_lookup; refine wpList_look_unit _ rfl _ _ rfl mb2 nn Dn (by go_simp) hm5 x hxs (by go_simp) true hhas ?_)
    have hB := ((Below.refl w4.heap.size w4).alloc (Nat.le_refl _) (.cells #[.string ct, .int .i64 cu] 59)).alloc (by simp) (.cells #[] 152)
    have hrg2 := (HRG1.out.alloc (.cells #[.string ct, .int .i64 cu] 59)).alloc (.cells #[] 152)
    refine ⟨⟨_, cnt1, v, hs, hrg2, HSUB1.out, by omega, HP1.out, HHP.out, HX4.out.below hB, HR4.out.below hB, (HM4.out.alloc (.cells #[.string ct, .int .i64 cu] 59)).alloc (.cells #[] 152), HB4.out.trans (hB.mono HB4.out.size), by rw [World.size_alloc, World.size_alloc]; omega⟩, ?_⟩
    rw [hrg2.left_eq, HRG.out.left_eq]
    omega
   ·have hhas : Maps.has Dn (.string x.data.toList) = false := by
     cases e : Maps.has Dn (.string x.data.toList) with
     | false => rfl
     | true => exact absurd ((HSET.out.has x).1 e) hq
    have HQ := hid hq
    clear hq
    go_wp2_with (at_lookup; refine wpList_look_unit _ rfl _ _ rfl mb2 nn Dn (by go_simp) hm5 x hxs (by go_simp) false hhas ?_)
    have hB := ((Below.refl w4.heap.size w4).alloc (Nat.le_refl _) (.cells #[.string ct, .int .i64 cu] 59)).alloc (by simp) (.cells #[] 152)
    have hrg2 := (HRG1.out.alloc (.cells #[.string ct, .int .i64 cu] 59)).alloc (.cells #[] 152)
    have R6 := HR4.out.below hB
    have hri := row_no_iter R6 hrg2
    refine (heapPush_any w1.heap.size (w1.heap.size + 1) v hs x cu _ (HX4.out.below hB) R6 (by omega) HHP.out (by omega) (by rw [World.size_alloc, World.size_alloc]; omega)).mono ?_
    rintro e w7 ⟨rfl, v', hs', hpm, hhp', X7, R7, hbt⟩
    have hvb : ∀ b, v.ownBlock = some b → w1.heap.size + 1 ≤ b := fun b e => (World.ownsRow.lt R6 b e).1
    have hrg7 := hbt.ranges hrg2 (fun h => h.elim (fun h => by omega) (fun h => by have := hvb _ h; omega)) (fun h => h.elim (fun h => by omega) (fun h => hri h))
    have M7 := hbt.map ((HM4.out.alloc (.cells #[.string ct, .int .i64 cu] 59)).alloc (.cells #[] 152)) (fun h => h.elim (fun h => by omega) (fun h => by have := hvb _ h; omega))
    have hsz7 := hbt.size
    rw [World.size_alloc, World.size_alloc] at hsz7
    have hB7 := hbt.below (B := w.heap.size) (by rw [World.size_alloc, World.size_alloc]; omega) (fun b h => h.elim (fun h => by omega) (fun h => by have := hvb _ h; omega))
    have hpm' : hs'.Perm (lvOf wd (ct, cu) :: hs) := by
     show hs'.Perm ((sumX wd ct, cu) :: hs)
     rw [HSM.out]; exact hpm
    have HP1 := hid (HPART.out.push HNN.out HIN.out (by show ¬ NeedTo wd its ts ts.length (sumX wd ct); rw [HSM.out]; exact HQ.out) (by show left (.string (sumX wd ct).data.toList) = true; rw [HSM.out]; exact HLK.out) hpm')
    have hlen' : hs'.length = hs.length + 1 := by rw [hpm.length_eq]; rfl
    have HP2 : Hid (Part wd (NeedTo wd its ts ts.length) its (fun z => left z && !z.sameKey (.string x.data.toList)) hs') := by have := HP1.out; rw [show sumX wd (ct, cu).1 = x from HSM.out] at this; exact hid this
    have HRG7 := hid hrg7
    have HM7 := hid M7
    have HX7 := hid X7
    have HR7 := hid R7
    have HH7 := hid hhp'
    have HB7 := hid (HB4.out.trans (hB.mono HB4.out.size) |>.trans hB7)
    have hcn : hs'.length + cnt1 ≤ its.length := by omega
    clear hB hrg2 R6 hri hpm hhp' X7 R7 hbt hvb hrg7 M7 hB7 hpm' HP1 hlen'
    go_wp2
    refine ⟨⟨_, cnt1, v', hs', HRG7.out, HSUB1.out, hcn, HP2.out, HH7.out, HX7.out, HR7.out, HM7.out, HB7.out, by omega⟩, ?_⟩
    rw [HRG7.out.left_eq, HRG.out.left_eq]
    omega
end Go.Proofs.YtkjdabnglcabiaaGreatDoor
/- A map of items is told by what it has: it is the map that the items are put into one by one. -/
namespace Go.Proofs.YtkjdabnglcabiaaGreatDoor
open Go.RowKit
theorem mapI_strs (n : Int) (its : Itms) : ∀ k, ∃ es, mapI n its k = .map es ∧ es.Pairwise (fun p q => p.1.before q.1 = true) ∧ ∀ p ∈ es, ∃ s, p.1 = .string s
 | 0 => ⟨[], rfl, List.Pairwise.nil, fun _ h => by cases h⟩
 | k + 1 => by
  obtain ⟨es, e, h1, h2⟩ := mapI_strs n its k
  have hp := h1.sublist (List.filter_sublist (p := fun p => !p.1.sameKey (.string (sumX n (itx its k)).data.toList)) (l := es))
  have hk : ∀ p ∈ es.filter fun p => !p.1.sameKey (.string (sumX n (itx its k)).data.toList), ∃ s, p.1 = .string s := fun p hp => h2 p (List.mem_filter.1 hp).1
  refine ⟨_, by rw [mapI_succ, e]; rfl, Go.ChangeMaps.insert_sorted ⟨_, rfl⟩ _ hp hk fun p hp' e' => ?_, fun p hp' => ?_⟩
  ·have := (List.mem_filter.1 hp').2
   rw [e', same_str] at this
   simp at this
  ·rcases Go.ChangeMaps.mem_insert_iff.1 hp' with rfl | h
   ·exact ⟨_, rfl⟩
   ·exact hk p h
theorem mapI_canon (n : Int) (its : Itms) (k : Nat) : Maps.Canon (mapI n its k) := by
 obtain ⟨es, e, h1, h2⟩ := mapI_strs n its k
 exact ⟨es, e, h1, fun p hp => by obtain ⟨s, hs⟩ := h2 p hp; rw [hs]; trivial⟩
theorem has_str {es : List (Lit × DataW Unit)} (hs : ∀ p ∈ es, ∃ s, p.1 = .string s) {k : Lit} (h : Maps.has (.map es) k = true) : ∃ s, k = .string s := by
 rw [Maps.has_eq] at h
 obtain ⟨p, hp, hk⟩ := List.any_eq_true.1 h
 obtain ⟨s, e⟩ := hs p hp
 rw [e] at hk
 cases k <;> simp [Lit.sameKey] at hk
 exact ⟨_, rfl⟩
theorem map_is {w : World} {b m : Nat} {D : DataW Unit} {wd : Int} {its : Itms} (hown : w.ownsMap Tryz.prog 9 itemElem b m D) (hN : (sumsL wd its).Pairwise (· < ·)) (hhas : ∀ x, Maps.has D (.string x) = true ↔ x ∈ sumsL wd its) (hat : ∀ p, p ∈ its → ∀ z, D.atKey (.string (sumX wd p.1).data.toList) z = datI p) : D = mapI wd its its.length := by
 obtain ⟨es, rfl, hk⟩ := hown.keysOf
 have hstr : ∀ p ∈ es, ∃ s, p.1 = .string s := fun p hp => by
  obtain ⟨key, hkey⟩ := hk p hp
  obtain ⟨x, _, h2, _⟩ := Maps.keyOf_str Tryz.underlying9 hkey
  exact ⟨x, h2⟩
 obtain ⟨es2, e2, _, hs2⟩ := mapI_strs wd its its.length
 refine Maps.ext (hown.canon keyed9) (mapI_canon wd its its.length) (fun k => ?_) (fun k z h => ?_)
 ·rw [Bool.eq_iff_iff]
  constructor
  ·intro h
   obtain ⟨s, rfl⟩ := has_str hstr h
   exact (mapI_all wd its s).2 ((hhas s).1 h)
  ·intro h
   have h' := h
   rw [e2] at h'
   obtain ⟨s, rfl⟩ := has_str hs2 h'
   exact (hhas s).2 ((mapI_all wd its s).1 h)
 ·obtain ⟨s, rfl⟩ := has_str hstr h
  obtain ⟨p, hp, rfl⟩ := List.mem_map.1 ((hhas s).1 h)
  obtain ⟨i, hi, rfl⟩ := List.getElem_of_mem hp
  rw [hat _ hp z]
  have h1 := mapI_at wd its hN z its.length (Nat.le_refl _) i hi
  rw [itx_get its i hi, itu_get its i hi] at h1
  exact h1.symm
theorem mapI_size {wd : Int} {its : Itms} (hN : (sumsL wd its).Pairwise (· < ·)) : ∀ k, k ≤ its.length → Maps.size (mapI wd its k) = k
 | 0, _ => rfl
 | k + 1, h => by
  rw [mapI_succ, Maps.size_put (mapI_tidy wd its k), mapI_size hN k (by omega)]
  have hn : Maps.has (mapI wd its k) (.string (sumX wd (itx its k)).data.toList) = false := by
   cases e : Maps.has (mapI wd its k) (.string (sumX wd (itx its k)).data.toList) with
   | false => rfl
   | true =>
    have hm := (mapI_has wd its _ k (by omega)).1 e
    obtain ⟨j, hj, he⟩ := List.getElem_of_mem hm
    have hj' : j < k := by rw [List.length_take] at hj; omega
    rw [List.getElem_take] at he
    have h1 := sumsL_get wd its j (by omega)
    rw [List.getElem?_eq_getElem (by rw [sumsL_len]; omega), he] at h1
    have := sums_inj hN (show k < its.length by omega) (show j < its.length by omega) (Option.some.inj h1)
    omega
  rw [hn]
  simp
theorem len_items {w : World} {b m : Nat} {wd : Int} {its : Itms} (h : w.ownsMap Tryz.prog 9 itemElem b m (mapI wd its its.length)) (hN : (sumsL wd its).Pairwise (· < ·)) (ty : TypeId) : (Builtin.len_ #[72] ty #[.map (some b)]).run Tryz.prog w = .ok (.int .i64 (its.length : Int)) w := by
 rw [h.len Tryz.underlying72 ty, mapI_size hN its.length (Nat.le_refl _)]
/-! What has been given away -/
structure GoneR (wd : Int) (its its' : Itms) (gone : List ByteArray) : Prop where
 mem : ∀ p, p ∈ its' ↔ p ∈ its ∧ sumX wd p.1 ∉ gone
theorem GoneR.start (wd : Int) (its : Itms) : GoneR wd its its [] := ⟨fun p => by simp⟩
theorem GoneR.step {wd : Int} {its its' : Itms} {gone : List ByteArray} (hN : (sumsL wd its').Pairwise (· < ·)) (h : GoneR wd its its' gone) {i : Nat} (hi : i < its'.length) : GoneR wd its (its'.eraseIdx i) (gone ++ [sumX wd (itx its' i)]) := by
 refine ⟨fun p => ?_⟩
 rw [mem_erase hN i hi, h.mem]
 rw [List.mem_append, List.mem_singleton]
 constructor
 ·rintro ⟨⟨h1, h2⟩, h3⟩
  refine ⟨h1, fun e => e.elim h2 fun e => h3 ?_⟩
  have hp : p ∈ its' := (h.mem p).2 ⟨h1, h2⟩
  obtain ⟨j, hj, rfl⟩ := List.getElem_of_mem hp
  have := sums_inj (n := wd) hN hj hi (by rw [itx_get its' j hj, e])
  subst this
  rfl
 ·rintro ⟨h1, h2⟩
  refine ⟨⟨h1, fun e => h2 (.inl e)⟩, fun e => h2 (.inr ?_)⟩
  rw [e, itx_get its' i hi]
end Go.Proofs.YtkjdabnglcabiaaGreatDoor
