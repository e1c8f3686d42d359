/- (*shelf).needed and impl.Needed: what pins need. -/
import Derived.Test.YtkjdabnglcabiaaGreatDoorNeedSpec
import Derived.Test.YtkjdabnglcabiaaGreatDoorSetIs
namespace Go.Proofs.YtkjdabnglcabiaaGreatDoor
open Go.RowKit Go.Sort
set_option maxRecDepth 100000 in
set_option maxHeartbeats 8000000 in
theorem needed_any (sb mb : Nat) (ac : Option Addr) (cc : Nat) (wd room tot : Int) (its : Itms) (ts : List ByteArray) (w : World) (hbox : Blk w sb 74 #[.int .i64 wd, .int .i64 room, .int .i64 tot, .map (some mb), .slice ac ts.length cc]) (hmap : w.ownsMap Tryz.prog 9 itemElem mb its.length (mapI wd its its.length)) (hrow : Reads w (.slice ac ts.length cc) ts) (hN : (sumsL wd its).Pairwise (· < ·)) (hlp : ts.length ≤ 10) (hsp : ∀ i, (tv ts i).size ≤ 1048576) (hsi : ∀ i, (itx its i).size ≤ 1048576) (hW : wd ≤ 8) (hE : Errs w) :
  Calls Tryz.prog 104 #[.pointer (some ⟨sb, 0, none⟩)] w fun e w' => ∃ mb2 nn D, e = .returned (.map (some mb2)) ∧ w'.ownsMap Tryz.prog 9 unitE mb2 nn D ∧ SetIs D (NeedTo wd its ts ts.length) ∧ w.heap.size ≤ mb2 ∧ Below w.heap.size w w' := by
 have hA := (Below.refl w.heap.size w).alloc (Nat.le_refl _) (.map #[] 0)
 have hmk := makeSet w
 have HM0 : Hid ((w.alloc (.map #[] 0)).ownsMap Tryz.prog 9 unitE w.heap.size 0 (.map [])) := World.ownsMap_made w Tryz.prog 9 unitE
 have HBX := hid hbox
 have HMP := hid hmap
 have HRW := hid hrow
 have HNN := hid hN
 have HE := hid hE
 have HSP := hid hsp
 have hsl := hbox.lt
 have hml := hmap.lt
 have b4 : ∀ o, (w.alloc o).cell? ⟨sb, 4, none⟩ = some (.slice ac ts.length cc) := fun o => (hbox.alloc o).cell 4
 have HLU := hid fun (W : World) (h1 : Blk W sb 74 #[.int .i64 wd, .int .i64 room, .int .i64 tot, .map (some mb), .slice ac ts.length cc]) (h2 : W.ownsMap Tryz.prog 9 itemElem mb its.length (mapI wd its its.length)) (h3 : Errs W) (p : ByteArray) (hp : p.size ≤ 1048576) => listUnder_any sb mb _ wd room tot its p W h1 h2 hN hp hsi h3
 clear hbox hmap hrow hN hE hsp hsi hA
 go_enter Tryz.func104, Tryz.ntmps104
 go_wp2
 clear hmk b4
 go_loopw [16] (fun i' wr => ∃ (k nn : Nat) (D : DataW Unit), k ≤ ts.length ∧ i' = .int .i64 k ∧ wr.ownsMap Tryz.prog 9 unitE w.heap.size nn D ∧ nn ≤ k * 376 ∧ SetIs D (NeedTo wd its ts k) ∧ Below w.heap.size w wr) (fun i' _ => ts.length - (intOf i').toNat)
 case atStart => exact ⟨0, 0, _, Nat.zero_le _, rfl, HM0.out, by omega, SetIs.none (fun x ⟨j, hj, _⟩ => by omega), (Below.refl _ _).alloc (Nat.le_refl _) _⟩
 case round =>
  obtain ⟨k, nn, D, hk, rfl, hmr, hnn, hset, hbl⟩ := hrel
  have HBL := hid hbl
  have HST := hid hset
  by_cases hlt : k < ts.length
  case neg =>
   obtain rfl : k = ts.length := by omega
   have HMR := hid hmr
   clear hmr hset hbl
   go_wp2
   go_ret
   exact ⟨_, nn, D, rfl, HMR.out, HST.out, Nat.le_refl _, HBL.out⟩
  obtain ⟨ac', cc', e', hcp⟩ := (HRW.out.below hbl).form
  cases e'
  obtain ⟨b0, o0, rfl, hpb, hpc⟩ := hcp k hlt
  have hpt : wr.cell? ⟨b0, o0 + k, none⟩ = some (.string (tv ts k)) := hpc
  have hps := HSP.out k
  have HSUC : Hid (∀ x, NeedTo wd its ts (k + 1) x ↔ NeedTo wd its ts k x ∨ NeedX wd its (tv ts k) x) := fun x => NeedTo.succ
  generalize tv ts k = p at hpt HSUC hps
  clear hcp hpc hpb hset
  go_wp2_with (first | (go_at_call 61; fail) | (at_mapUpdate; refine wpList_mapUpdate_own _ rfl _ _ _ 146 rfl 9 152 keyed9 Tryz.underlying146 unitE w.heap.size nn D rfl hmr (by unfold maxLen; omega) _ _ _ rfl rfl (key9 p (by unfold maxLen; omega)) (.agg []) [] unitE_mk ?_; intro w1 hown1 hgrow1; have hb1 := hbl.grown hgrow1 (Nat.le_trans (Nat.le_refl _) hbl.size) (fun g e => by cases e; exact Nat.le_refl _); clear hpt))
  have HB1 := hid hb1
  have HM1 := hid hown1
  have HLU1 := hid (HLU.out w1 (HBX.out.below hb1) (HMP.out.kept (grown_of_below hb1) (by simp)) (HE.out.below hb1) p hps)
  have HS1 : Hid (SetIs (D.put (.string p.data.toList) (.agg [])) (fun x => x = p ∨ NeedTo wd its ts k x)) := HST.out.put p (fun x => Iff.rfl) _
  generalize D.put (.string p.data.toList) (.agg []) = D1 at *
  clear hgrow1 hown1 hmr hbl hb1
  refine HLU1.out.mono ?_
  rintro e w2 ⟨v2, n, ss, ok, rfl, hul, ho2, hb2⟩
  obtain ⟨hfew, _, hsz⟩ := hul.few
  have HXN : Hid (∀ x, NeedX wd its p x ↔ x = p ∨ x ∈ ss) := fun x => NeedX.of_list HNN.out hul
  obtain ⟨a2, c2, rfl, _⟩ := row_form ho2
  have HSZ : Hid (∀ m, m < ss.length → (tv ss m).size ≤ 8) := fun m hm => by
   have : tv ss m ∈ ss := by unfold tv; rw [List.getD_eq_getElem?_getD, List.getElem?_eq_getElem hm]; exact List.getElem_mem hm
   have := (hsz _ this).1
   omega
  have M2 := HM1.out.kept (grown_of_below hb2) (by simp)
  have HM2 := hid (M2.alloc (.cells #[.int .i64 n, .slice a2 ss.length c2] 54))
  have D2 := HB1.out.trans (hb2.mono HB1.out.size)
  have HD2 := hid (D2.alloc D2.size (.cells #[.int .i64 n, .slice a2 ss.length c2] 54))
  have HR2 := hid (Reads.of_row (ho2.alloc (.cells #[.int .i64 n, .slice a2 ss.length c2] 54)))
  have HRB := hid fun g (e : (Value.slice a2 ss.length c2).ownBlock = some g) => (ho2.lt g e).1
  have hm1l := HM1.out.lt
  obtain ⟨w3, hw3⟩ : ∃ w3, w3 = w2.alloc (.cells #[.int .i64 n, .slice a2 ss.length c2] 54) := ⟨_, rfl⟩
  have ROW : Hid (w2.ownsRow (w1.heap.size + 1) 9 1 (.slice a2 ss.length c2) ss.length (ss.map Value.string)) := ho2
  clear hul ho2 hb2 M2 D2 hsz
  go_wp2
  rw [← hw3] at HM2 HD2 HR2 ⊢
  have HROW : Hid (w3.ownsRow (w1.heap.size + 1) 9 1 (.slice a2 ss.length c2) ss.length (ss.map Value.string)) := by
   show w3.ownsRow _ 9 1 _ _ _
   rw [hw3]
   exact ROW.out.alloc _
  clear hw3
  go_loopw [32] (fun i' wz => ∃ (m n2 : Nat) (E : DataW Unit), m ≤ ss.length ∧ i' = .int .i64 m ∧ wz.ownsMap Tryz.prog 9 unitE w.heap.size n2 E ∧ n2 ≤ k * 376 + 1 + m ∧ SetIs E (fun x => (x = p ∨ NeedTo wd its ts k x) ∨ x ∈ ss.take m) ∧ w3.grownBy wz (some w.heap.size)) (fun i' _ => ss.length - (intOf i').toNat)
  case atStart => exact ⟨0, nn + 1, D1, Nat.zero_le _, rfl, HM2.out, by omega, ⟨HS1.out.tidy, fun x => by rw [HS1.out.has]; simp⟩, grown_refl2 _ _⟩
  case round =>
   obtain ⟨m, n2, E, hm, rfl, hmz, hn2, hsetE, hg⟩ := hrel
   have HSE := hid hsetE
   have HG := hid hg
   by_cases hltm : m < ss.length
   ·have hrz := row_kept HROW.out hg (by omega)
    obtain ⟨al', cl', e', hcl⟩ := (Reads.of_row hrz).form
    cases e'
    obtain ⟨b6, o6, rfl, hb6, hc6⟩ := hcl m hltm
    have hx6 : wr.cell? ⟨b6, o6 + m, none⟩ = some (.string (tv ss m)) := hc6
    have hy8 := HSZ.out m hltm
    have HTK : Hid (∀ x, x ∈ ss.take (m + 1) ↔ x ∈ ss.take m ∨ x = tv ss m) := fun x => by
     rw [List.take_succ_eq_append_getElem hltm, List.mem_append, List.mem_singleton]
     have e : tv ss m = ss[m] := by simp [tv, hltm]
     rw [e]
    generalize tv ss m = y at hx6 HTK hy8
    have HS3 : Hid (SetIs (E.put (.string y.data.toList) (.agg [])) (fun x => (x = p ∨ NeedTo wd its ts k x) ∨ x ∈ ss.take (m + 1))) := HSE.out.put y (fun x => by
     rw [HTK.out]
     constructor
     ·rintro (h | h | h)
      ·exact .inr (.inl h)
      ·exact .inr (.inr h)
      ·exact .inl h
     ·rintro (h | h | h)
      ·exact .inr (.inr h)
      ·exact .inl h
      ·exact .inr (.inl h)) _
    clear hcl hc6 hb6 hrz hsetE
    go_wp2_with (at_mapUpdate; refine wpList_mapUpdate_own _ rfl _ _ _ 146 rfl 9 152 keyed9 Tryz.underlying146 unitE w.heap.size n2 E rfl hmz (by unfold maxLen; omega) _ _ _ rfl rfl (key9 y (by unfold maxLen; omega)) (.agg []) [] unitE_mk ?_; intro w4 hown4 hgrow4; clear hx6)
    exact ⟨⟨m + 1, n2 + 1, _, by omega, by go_num, hown4, by omega, HS3.out, grown_same HG.out hgrow4⟩, by simp [intOf]; omega⟩
   ·obtain rfl : m = ss.length := by omega
    have HSX : Hid (SetIs E (NeedTo wd its ts (k + 1))) := ⟨HSE.out.tidy, fun x => by
     rw [HSE.out.has, HSUC.out, HXN.out, List.take_length]
     constructor
     ·rintro ((h | h) | h)
      ·exact .inr (.inl h)
      ·exact .inl h
      ·exact .inr (.inr h)
     ·rintro (h | h | h)
      ·exact .inl (.inr h)
      ·exact .inl (.inl h)
      ·exact .inr h⟩
    have HMZ := hid hmz
    have HBZ := hid (HD2.out.grown hg (Nat.le_trans (Nat.le_refl _) HD2.out.size) (fun g e => by cases e; exact Nat.le_refl _))
    clear hmz hsetE hg
    go_wp2
    go_roundw
    case rel => exact ⟨k + 1, n2, E, by omega, by go_num, HMZ.out, by omega, HSX.out, HBZ.out⟩
    case measure => simp [intOf]; omega
end Go.Proofs.YtkjdabnglcabiaaGreatDoor
