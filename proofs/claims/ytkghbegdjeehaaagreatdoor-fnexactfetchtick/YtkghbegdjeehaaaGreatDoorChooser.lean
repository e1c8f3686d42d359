import Derived.Test.YtkghbegdjeehaaaGreatDoorShort
import Derived.Test.YtkghbegdjeehaaaGreatDoorLoadUnder
import Derived.Test.YtkghbegdjeehaaaGreatDoorOpenFetch
import Derived.Test.YtkghbegdjeehaaaGreatDoorPeerRange
import Derived.Test.YtkghbegdjeehaaaGreatDoorDeleteFn
import Derived.Test.YtkghbegdjeehaaaGreatDoorCopySpec
/- (*impl.hunt).thing: what the store of a hunt has under its name. -/
namespace Go.Proofs.YtkghbegdjeehaaaGreatDoor
open Go.RowKit
/-- What thing answers. -/
def ThingR (wd : Int) (its : Itms) (name : ByteArray) (w : World) (e : Ending) (w' : World) : Prop :=
 (∃ n ss, e = .returned (.iface 178 (.agg #[.string name, .string ⟨#[]⟩, .bool false])) ∧ UL wd its name n ss false ∧ Below w.heap.size w w') ∨
 (∃ n ss vs vl vp B, e = .returned (.iface 183 (.agg #[.int .i64 n, vl, .int .i64 wd, vp])) ∧ UL wd its name n ss true ∧ Reads w' vl ss ∧ w'.ownsRow B 152 1 vp ss.length vs ∧ PartsOf wd its ss ss.length vs ∧ Below w.heap.size w w')
set_option maxRecDepth 100000 in
set_option maxHeartbeats 2000000 in
theorem huntThing_any (hb sb mb : Nat) (vc : Value) (wd room tot now : Int) (full : Bool) (vm lv : Value) (lk : Bool) (its : Itms) (name : ByteArray) (w : World) (hbx : Blk w hb 95 #[.string name, .int .i64 now, .bool full, .pointer (some ⟨sb, 0, none⟩), vm, lv, .bool lk]) (hbox : Blk w sb 91 #[.int .i64 wd, .int .i64 room, .int .i64 tot, .map (some mb), vc]) (hmap : w.ownsMap Tryz.prog 9 itemElem mb its.length (mapI wd its its.length)) (hN : (sumsL wd its).Pairwise (· < ·)) (hs : name.size ≤ 1048576) (hsi : ∀ i, (itx its i).size ≤ 1048576) (hE : Errs w) :
  Calls Tryz.prog 108 #[.pointer (some ⟨hb, 0, none⟩)] w (ThingR wd its name w) := by
 have hbd : Below w.heap.size w w.drew := below_drewN (Below.refl _ _) 1
 have HUN := hid (under_any sb mb vc wd room tot its name w.drew (hbox.below hbd) hmap.drew hN hs hsi (hE.below hbd))
 clear hbd
 have y0 : w.cell? ⟨hb, 0, none⟩ = some (.string name) := hbx.cell 0
 have y3 : w.cell? ⟨hb, 3, none⟩ = some (.pointer (some ⟨sb, 0, none⟩)) := hbx.cell 3
 have hS0 : w.drew.cell? ⟨hb, 0, none⟩ = some (.string name) ∧ w.drew.cell? ⟨hb, 3, none⟩ = some (.pointer (some ⟨sb, 0, none⟩)) := ⟨y0, y3⟩
 have HBX := hid hbx
 have hec := enters_of Tryz.func118 (by kernel_rfl) rfl
 have hec2 := enters_of Tryz.func117 (by kernel_rfl) rfl
 clear hbox hmap hN hs hsi hE hbx y0 y3
 go_enter Tryz.func108, Tryz.ntmps108
 go_wp2_with fail
 refine wp_region_held (S := fun w' => w'.cell? ⟨hb, 0, none⟩ = some (.string name) ∧ w'.cell? ⟨hb, 3, none⟩ = some (.pointer (some ⟨sb, 0, none⟩))) (by kernel_rfl) ?_
 change wpAnyH _ _ _ _ _ _ _ _ (World.drew _)
 refine tkA 0 (.pointer (some ⟨hb, 0, none⟩)) rfl hS0 ?_
 refine tkA 1 (.pointer (some ⟨hb, 0, none⟩)) rfl hS0 ?_
 refine tkA 2 (.pointer (some ⟨hb, 3, none⟩)) rfl hS0 ?_
 refine tkA 3 (.pointer (some ⟨sb, 0, none⟩)) rfl hS0 ?_
 refine tkA 4 (.pointer (some ⟨hb, 0, none⟩)) rfl hS0 ?_
 refine tkA 5 (.pointer (some ⟨hb, 0, none⟩)) rfl hS0 ?_
 refine tkA 6 (.pointer (some ⟨hb, 0, none⟩)) rfl hS0 ?_
 refine tkA 7 (.string name) rfl hS0 ?_
 refine held_one 8 (by kernel_rfl) (op_calls (f := 118) (args := #[.pointer (some ⟨sb, 0, none⟩), .string name]) rfl rfl (by go_simp) HUN.out ?_)
 rintro e w2 (⟨n, ss, t, b, rfl, hul, hpc, hb2⟩ | ⟨n, ss, vs, vl, vq, B, rfl, hul, hrd, hrow, hpo, hb2⟩)
 ·have hb2' : Below w.heap.size w w2 := ⟨hb2.os, hb2.tape, hb2.output, hb2.size, hb2.block⟩
  have X2 := HBX.out.below hb2'
  have hS1 : w2.cell? ⟨hb, 0, none⟩ = some (.string name) ∧ w2.cell? ⟨hb, 3, none⟩ = some (.pointer (some ⟨sb, 0, none⟩)) := ⟨X2.cell 0, X2.cell 3⟩
  have HB2 := hid hb2'
  have HX2 := hid X2
  have HAT := hid (asThing_one name t b w2)
  have HU := hid hul
  clear hul hpc hb2 hb2' X2 hS0
  refine ⟨_, rfl, hS1, ?_⟩
  refine held_one 9 (by kernel_rfl) (op_calls (f := 117) (args := #[partV name t b]) rfl rfl (by go_simp) HAT.out ?_)
  rintro e w3 ⟨rfl, hb3⟩
  have X3 := HX2.out.below hb3
  have hS2 : w3.cell? ⟨hb, 0, none⟩ = some (.string name) ∧ w3.cell? ⟨hb, 3, none⟩ = some (.pointer (some ⟨sb, 0, none⟩)) := ⟨X3.cell 0, X3.cell 3⟩
  have HB3 := hid (HB2.out.trans (hb3.mono HB2.out.size))
  clear hb3 X3 hS1
  refine ⟨_, rfl, hS2, ?_⟩
  refine tkA 10 (.iface 178 (.agg #[.string name, .string ⟨#[]⟩, .bool false])) rfl hS2 ?_
  refine wpAnyH_done (by kernel_rfl) ?_ _
  clear hS2
  go_simp
  go_wp2
  go_ret
  exact .inl ⟨n, ss, rfl, HU.out, HB3.out⟩
 ·have hb2' : Below w.heap.size w w2 := ⟨hb2.os, hb2.tape, hb2.output, hb2.size, hb2.block⟩
  have X2 := HBX.out.below hb2'
  have hS1 : w2.cell? ⟨hb, 0, none⟩ = some (.string name) ∧ w2.cell? ⟨hb, 3, none⟩ = some (.pointer (some ⟨sb, 0, none⟩)) := ⟨X2.cell 0, X2.cell 3⟩
  have HB2 := hid hb2'
  have HX2 := hid X2
  have HAT := hid (asThing_whole (.agg #[.int .i64 n, vl, .int .i64 wd, vq]) w2)
  have HU := hid hul
  have HRD := hid hrd
  have HRW := hid hrow
  have HPO := hid hpo
  clear hul hrd hrow hpo hb2 hb2' X2 hS0
  refine ⟨_, rfl, hS1, ?_⟩
  refine held_one 9 (by kernel_rfl) (op_calls (f := 117) (args := #[.iface 183 (.agg #[.int .i64 n, vl, .int .i64 wd, vq])]) rfl rfl (by go_simp) HAT.out ?_)
  rintro e w3 ⟨rfl, hb3⟩
  have X3 := HX2.out.below hb3
  have hS2 : w3.cell? ⟨hb, 0, none⟩ = some (.string name) ∧ w3.cell? ⟨hb, 3, none⟩ = some (.pointer (some ⟨sb, 0, none⟩)) := ⟨X3.cell 0, X3.cell 3⟩
  have HB3 := hid (HB2.out.trans (hb3.mono HB2.out.size))
  have HR3 := hid (HRD.out.below hb3)
  have HW3 := hid (part_below HRW.out hb3)
  clear hb3 X3 hS1
  refine ⟨_, rfl, hS2, ?_⟩
  refine tkA 10 (.iface 183 (.agg #[.int .i64 n, vl, .int .i64 wd, vq])) rfl hS2 ?_
  refine wpAnyH_done (by kernel_rfl) ?_ _
  clear hS2
  go_simp
  go_wp2
  go_ret
  exact .inr ⟨n, ss, vs, vl, vq, B, rfl, HU.out, HR3.out, HW3.out, HPO.out, HB3.out⟩
end Go.Proofs.YtkghbegdjeehaaaGreatDoor
/- onePiece.lacked, wholeList.lacked, impl.Lacks. -/
namespace Go.Proofs.YtkghbegdjeehaaaGreatDoor
open Go.RowKit
theorem lackOne (x : Value) (W : World) : (callMethod (.iface 178 x) "loop.example/kilnpass/impl.lacked" #[]).run Tryz.prog W = .ok (.enter 222 #[x]) W := by kernel_rfl
theorem lackWhole (x : Value) (W : World) : (callMethod (.iface 183 x) "loop.example/kilnpass/impl.lacked" #[]).run Tryz.prog W = .ok (.enter 224 #[x]) W := by kernel_rfl
theorem row_lower {w : World} {B B' n : Nat} {v : Value} {xs : List Value} (h : w.ownsRow B 9 1 v n xs) (hb : B' ≤ B) : w.ownsRow B' 9 1 v n xs :=
 ⟨h.1, h.2.imp id (fun ⟨g, cap, cur, e, h1, r⟩ => ⟨g, cap, cur, e, Nat.le_trans hb h1, r⟩)⟩
theorem row_one (w : World) (s : ByteArray) (B : Nat) (hB : B ≤ w.heap.size) : (w.alloc (.cells #[.string s] 9)).ownsRow B 9 1 (.slice (some ⟨w.heap.size, 0, none⟩) 1 1) 1 [.string s] :=
 ⟨by simp, .inr ⟨w.heap.size, 1, #[.string s], rfl, hB, World.alloc_heap_new w _, Nat.le_refl _, by simp [maxLen], by simp, by simp⟩⟩
set_option maxRecDepth 100000 in
set_option maxHeartbeats 1000000 in
theorem oneLacked_any (s t : ByteArray) (there : Bool) (w : World) :
  Calls Tryz.prog 222 #[.agg #[.string s, .string t, .bool there]] w fun e w' => ((there = true ∧ e = .returned (.slice none 0 0)) ∨ (there = false ∧ ∃ g, e = .returned (.slice (some ⟨g, 0, none⟩) 1 1) ∧ w'.ownsRow w.heap.size 9 1 (.slice (some ⟨g, 0, none⟩) 1 1) 1 [.string s])) ∧ Below w.heap.size w w' := by
 have HA := hid ((Below.refl w.heap.size w).alloc (Nat.le_refl _) (.cells #[.string s, .string t, .bool there] 178))
 cases there with
 | true =>
  go_enter Tryz.func222, Tryz.ntmps222
  go_wp2
  go_ret
  exact ⟨.inl ⟨trivial, rfl⟩, HA.out⟩
 | false =>
  have R := row_one (w.alloc (.cells #[.string s, .string t, .bool false] 178)) s w.heap.size (by simp)
  rw [World.size_alloc] at R
  have HR := hid R
  have HB := hid (HA.out.alloc HA.out.size (.cells #[.string s] 9))
  clear R
  go_enter Tryz.func222, Tryz.ntmps222
  go_wp2
  go_ret
  exact ⟨.inr ⟨trivial, _, rfl, HR.out⟩, HB.out⟩
set_option maxRecDepth 100000 in
set_option maxHeartbeats 8000000 in
theorem wholeLacked_any (wd : Int) (its : Itms) (n : Int) (vl vp : Value) (ss : List ByteArray) (vs : List Value) (B : Nat) (w : World) (hl : ∃ a l c, vl = .slice a l c) (hrow : w.ownsRow B 152 1 vp ss.length vs) (hpo : PartsOf wd its ss ss.length vs) (hfew : ss.length ≤ 375) (hss : ∀ i, (tv ss i).size ≤ 1048576) :
  Calls Tryz.prog 224 #[.agg #[.int .i64 n, vl, .int .i64 wd, vp]] w fun e w' => ∃ v, e = .returned v ∧ w'.ownsRow (w.heap.size + 2) 9 1 v (lackN wd its ss ss.length).length ((lackN wd its ss ss.length).map Value.string) ∧ Below w.heap.size w w' := by
 obtain ⟨i0, hi0, hz0, hz1, hz2⟩ := info_parts Tryz.info9
 obtain ⟨al, ll, cl, rfl⟩ := hl
 obtain ⟨ap, cp, rfl⟩ := parts_form hrow
 have hA := (Below.refl w.heap.size w).alloc (Nat.le_refl _) (.cells #[.int .i64 n, .slice al ll cl, .int .i64 wd, .slice ap ss.length cp] 183)
 have hM := hA.alloc hA.size (.map #[] 0)
 have hmk := makeSet (w.alloc (.cells #[.int .i64 n, .slice al ll cl, .int .i64 wd, .slice ap ss.length cp] 183))
 rw [World.size_alloc] at hmk
 have M0 : ((w.alloc (.cells #[.int .i64 n, .slice al ll cl, .int .i64 wd, .slice ap ss.length cp] 183)).alloc (.map #[] 0)).ownsMap Tryz.prog 9 unitE (w.heap.size + 1) 0 (.map []) := by
  have := World.ownsMap_made (w.alloc (.cells #[.int .i64 n, .slice al ll cl, .int .i64 wd, .slice ap ss.length cp] 183)) Tryz.prog 9 unitE
  rw [World.size_alloc] at this
  exact this
 have HM0 := hid M0
 have HR := hid (part_below hrow hA)
 have HPO := hid hpo
 have HSS := hid hss
 have HA := hid hA
 have HM := hid hM
 have hN : (w.alloc (.cells #[.int .i64 n, .slice al ll cl, .int .i64 wd, .slice ap ss.length cp] 183)).cell? ⟨w.heap.size, 3, none⟩ = some (.slice ap ss.length cp) := (Blk.new w 183 _).cell 3
 have hN1 : ∀ o, ((w.alloc (.cells #[.int .i64 n, .slice al ll cl, .int .i64 wd, .slice ap ss.length cp] 183)).alloc o).cell? ⟨w.heap.size, 3, none⟩ = some (.slice ap ss.length cp) := fun o => ((Blk.new w 183 _).alloc o).cell 3
 clear hrow hpo hss hA hM M0
 go_enter Tryz.func224, Tryz.ntmps224
 go_wp2_with fail
 clear hmk hN hN1
 go_loopw [3, 15] (fun v i' wr => ∃ (k nn : Nat) (D : DataW Unit), k ≤ ss.length ∧ i' = .int .i64 k ∧ wr.ownsRow (w.heap.size + 2) 9 1 v (lackN wd its ss k).length ((lackN wd its ss k).map Value.string) ∧ wr.ownsMap Tryz.prog 9 unitE (w.heap.size + 1) nn D ∧ nn ≤ k ∧ SetIs D (fun x => x ∈ lackN wd its ss k) ∧ Below (w.heap.size + 1) (w.alloc (.cells #[.int .i64 n, .slice al ll cl, .int .i64 wd, .slice ap ss.length cp] 183)) wr ∧ w.heap.size + 2 ≤ wr.heap.size) (fun _ i' _ => ss.length - (intOf i').toNat)
 case atStart => exact ⟨0, 0, _, Nat.zero_le _, rfl, ⟨rfl, .inl ⟨rfl, rfl⟩⟩, HM0.out, Nat.le_refl _, SetIs.none (fun x h => by cases h), (Below.refl _ _).alloc (by simp) _, by simp⟩
 case round =>
  obtain ⟨k, nn, D, hk, rfl, hown, hmap, hnn, hset, hbl, hsz⟩ := hrel
  have hbl' : Below (w.alloc (.cells #[.int .i64 n, .slice al ll cl, .int .i64 wd, .slice ap ss.length cp] 183)).heap.size (w.alloc (.cells #[.int .i64 n, .slice al ll cl, .int .i64 wd, .slice ap ss.length cp] 183)) wr := by rw [World.size_alloc]; exact hbl
  have hlen := lackN_len wd its ss k
  have HOW := hid hown
  have HMP := hid hmap
  have HST := hid hset
  have HBL := hid hbl
  obtain ⟨av, cv, rfl, _⟩ := row_form hown
  by_cases hlt : k < ss.length
  case neg =>
   obtain rfl : k = ss.length := by omega
   have HB := hid (HA.out.trans (hbl.mono (Nat.le_succ _)))
   clear hown hmap hset hbl hbl'
   go_wp2
   go_ret
   exact ⟨_, rfl, HOW.out, HB.out⟩
  obtain ⟨t, b, hvk, hpc⟩ := HPO.out.2 k hlt
  have HRR := hid (part_below HR.out hbl')
  obtain ⟨g, e', hgl, hcell⟩ : ∃ g, ap = some ⟨g, 0, none⟩ ∧ g < wr.heap.size ∧ wr.cell? ⟨g, k, none⟩ = some (partV (tv ss k) t b) := by
   have hl2 := HRR.out.lt
   rcases id HRR.out with ⟨_, ⟨e1, e2⟩ | ⟨g, cap, cur, e1, _⟩⟩
   ·omega
   ·have ea : ap = some ⟨g, 0, none⟩ := (Value.slice.inj e1).1
    subst ea
    have hc := HRR.out.cellAt k (by omega)
    exact ⟨g, rfl, (hl2 g rfl).2, by rw [hc, hvk]⟩
  subst e'
  have HSUC := hid (lackN_succ (wd := wd) (its := its) hlt)
  have hxs := HSS.out k
  have HPC := hid hpc
  generalize tv ss k = x at hcell HSUC hxs HPC
  have HON := hid (oneLacked_any x t b wr)
  have hin := fun W => lackOne (.agg #[.string x, .string t, .bool b]) W
  clear hown hmap hset hbl hbl' hvk hpc hgl
  go_wp2_with fail
  refine HON.out.mono ?_
  rintro e w3 ⟨hcase, hb3⟩
  have hs3 := hb3.size
  have D3 := HBL.out.trans (hb3.mono (by omega))
  have R3 := Below.row hb3 HOW.out
  have M3 := HMP.out.kept (grown_of_below hb3) (by simp)
  have HD3 := hid D3
  have HR3 := hid R3
  have HM3 := hid M3
  have hml := M3.lt
  clear hb3 D3 R3 M3 hcell hin
  rcases hcase with ⟨rfl, rfl⟩ | ⟨rfl, g3, rfl, hrow3⟩
  ·have HE : Hid (lackN wd its ss (k + 1) = lackN wd its ss k) := by
    show lackN wd its ss (k + 1) = lackN wd its ss k
    rw [HSUC.out]
    rcases HPC.out with ⟨_, h⟩ | ⟨h, _⟩
    ·exact addL_have h
    ·cases h
   go_wp2_with fail
   go_loopw [3, 22] (fun v i' wz => v = .slice av (lackN wd its ss k).length cv ∧ i' = .int .i64 0 ∧ wz = w3) (fun _ _ _ => 0)
   case atStart => exact ⟨rfl, rfl, rfl⟩
   case round =>
    obtain ⟨rfl, rfl, rfl⟩ := hrel
    go_wp2
    exact ⟨⟨k + 1, nn, D, by omega, by go_num, by rw [HE.out]; exact HR3.out, HM3.out, by omega, by rw [HE.out]; exact HST.out, HD3.out, by omega⟩, by simp [intOf]; omega⟩
  ·have hab : Absent wd its x := by
    rcases HPC.out with ⟨h, _⟩ | ⟨_, h, _⟩
    ·cases h
    ·exact h
   have HAB := hid hab
   have hc3 : w3.cell? ⟨g3, 0, none⟩ = some (.string x) := hrow3.cellAt 0 (by omega)
   clear hab hrow3
   go_wp2_with fail
   go_loopw [3, 22] (fun v i' wz => ∃ (m nn' : Nat) (D' : DataW Unit) (o' : List ByteArray), i' = .int .i64 m ∧ ((m = 0 ∧ wz = w3 ∧ v = .slice av (lackN wd its ss k).length cv) ∨ (m = 1 ∧ o' = lackN wd its ss (k + 1) ∧ wz.ownsRow (w.heap.size + 2) 9 1 v o'.length (o'.map Value.string) ∧ wz.ownsMap Tryz.prog 9 unitE (w.heap.size + 1) nn' D' ∧ nn' ≤ k + 1 ∧ SetIs D' (fun y => y ∈ o') ∧ Below (w.heap.size + 1) (w.alloc (.cells #[.int .i64 n, .slice al ll cl, .int .i64 wd, .slice (some ⟨g, 0, none⟩) ss.length cp] 183)) wz ∧ w.heap.size + 2 ≤ wz.heap.size))) (fun _ i' _ => 1 - (intOf i').toNat)
   case atStart => exact ⟨0, 0, D, [], rfl, .inl ⟨rfl, rfl, rfl⟩⟩
   case round =>
    obtain ⟨m, nn', D', o', rfl, ⟨rfl, rfl, rfl⟩ | ⟨rfl, rfl, hown', hmap', hnn', hset', hbl', hsz'⟩⟩ := hrel
    ·have hmm := HM3.out
     cases hin : inB (lackN wd its ss k) x with
     | true =>
      have hhas : Maps.has D (.string x.data.toList) = true := (HST.out.has x).2 ((inB_iff _ _).1 hin)
      have HE : Hid (lackN wd its ss k = lackN wd its ss (k + 1)) := (HSUC.out.trans (addL_told hin)).symm
      clear hin
      go_wp2_with (at_lookup; refine wpList_look_unit _ rfl _ _ rfl (w.heap.size + 1) nn D (by go_simp) hmm x (by unfold maxLen; omega) (by go_simp) true hhas ?_)
      exact ⟨⟨1, nn, D, _, by go_num, .inr ⟨rfl, HE.out, HR3.out.alloc _, HM3.out.alloc _, by omega, HST.out, HD3.out.alloc (by omega) _, by simp; omega⟩⟩, by simp [intOf]⟩
     | false =>
      have hhas : Maps.has D (.string x.data.toList) = false := by
       cases hh : Maps.has D (.string x.data.toList) with
       | false => rfl
       | true => rw [(inB_iff _ _).2 ((HST.out.has x).1 hh)] at hin; cases hin
      have HE : Hid (lackN wd its ss k ++ [x] = lackN wd its ss (k + 1)) := (HSUC.out.trans (addL_new HAB.out hin)).symm
      have HS2 : Hid (SetIs (D.put (.string x.data.toList) (.agg [])) (fun y => y ∈ lackN wd its ss k ++ [x])) := HST.out.put x (fun y => by rw [List.mem_append, List.mem_singleton]; exact Or.comm) _
      have ma := hmm.alloc (.cells #[] 290)
      clear hin
      go_wp2_with (first | (at_lookup; refine wpList_look_unit _ rfl _ _ rfl (w.heap.size + 1) nn D (by go_simp) hmm x (by unfold maxLen; omega) (by go_simp) false hhas ?_) | (at_mapUpdate; refine wpList_mapUpdate_own _ rfl _ _ _ 289 rfl 9 290 keyed9 Tryz.underlying289 unitE (w.heap.size + 1) nn D rfl ma (by unfold maxLen; omega) _ _ _ rfl rfl (key9 x (by unfold maxLen; omega)) (.agg []) [] unitE_mk ?_; intro w4 hown4 hgrow4; have hr4 := row_kept (HR3.out.alloc (.cells #[] 290)) hgrow4 (by omega); have hs4 := hgrow4.size; rw [World.size_alloc] at hs4; have hb4 := (HD3.out.alloc (by omega) (.cells #[] 290)).grown hgrow4 (by simp; omega) (fun g e => by cases e; exact Nat.le_refl _)) | (at_builtin; refine wpList_append_own _ rfl _ _ 23 rfl (w.heap.size + 2) 9 i0 (.string ⟨#[]⟩) 1 16 Tryz.underlying23 hi0 hz0 hz1 hz2 rfl (by decide) _ _ _ rfl (hr4.alloc _) ⟨_, 0, none⟩ 1 1 [.string x] rfl rfl (cell_one_new _ _ _) (by simp [Value.oneCell']) (by unfold maxLen; omega) (by omega) (by simp; omega) ?_; intro v' w6 hown' hgrow _; obtain ⟨a6, c6, rfl, _⟩ := row_form hown'))
      have hm6 := (hown4.alloc (.cells #[.string x] 9)).kept hgrow (fun e => by have := (hr4.lt _ e.symm).1; omega)
      have hb6 := (hb4.alloc (by omega) (.cells #[.string x] 9)).grown hgrow (by simp; omega) (fun g e => by have := (hr4.lt g e).1; omega)
      have hs6 := hgrow.size
      rw [World.size_alloc] at hs6
      exact ⟨⟨1, nn + 1, _, lackN wd its ss k ++ [x], by go_num, .inr ⟨rfl, HE.out, by simpa using hown', hm6, by omega, HS2.out, hb6, by omega⟩⟩, by simp [intOf]⟩
    ·have HO := hid hown'
     have HMm := hid hmap'
     have HSm := hid hset'
     have HBm := hid hbl'
     obtain ⟨a7, c7, rfl, _⟩ := row_form hown'
     clear hown' hmap' hset' hbl'
     go_wp2
     exact ⟨⟨k + 1, nn', D', by omega, by go_num, HO.out, HMm.out, by omega, HSm.out, HBm.out, hsz'⟩, by simp [intOf]; omega⟩
end Go.Proofs.YtkghbegdjeehaaaGreatDoor
/- (*impl.hunt).lacked, chooser and what chooser gives. -/
namespace Go.Proofs.YtkghbegdjeehaaaGreatDoor
open Go.RowKit
theorem cut_mem {x : ByteArray} {ts : List ByteArray} (hA : Asc ts) (h : x ∈ ts) : cutN x ts < ts.length ∧ tv ts (cutN x ts) = x := by
 obtain ⟨i, hi, he⟩ := List.getElem_of_mem h
 have e1 : tv ts i = x := by simp [tv, hi, he]
 by_cases h1 : i < cutN x ts
 ·have := cut_below x ts i h1
  rw [e1, tlt_irrefl] at this
  cases this
 ·by_cases h2 : cutN x ts = i
  ·rw [h2]; exact ⟨hi, e1⟩
  ·have h3 : cutN x ts < i := by omega
   have h4 := cut_above x ts hA (cutN x ts) (Nat.le_refl _) (by omega)
   have h5 := (List.pairwise_iff_getElem.1 hA) (cutN x ts) i (by omega) hi h3
   rw [he, show ts[cutN x ts] = tv ts (cutN x ts) by simp [tv, show cutN x ts < ts.length by omega]] at h5
   rw [h4] at h5
   cases h5
theorem searchRd_any (v : Value) (ts : List ByteArray) (x : ByteArray) (w : World) (hv : Reads w v ts) (hA : Asc ts) (hl : ts.length ≤ 1048576) : Calls Tryz.prog 93 #[v, .string x] w fun e w' => ∃ k : Int, e = .returned (.tuple #[.int .i64 k, .bool (inB ts x)]) ∧ Below w.heap.size w w' := by
 rcases hv with ⟨rfl, a, cap, rfl⟩ | ⟨b, off, cap, rfl, hb, hc⟩
 ·refine (search_none _ _ _ _).mono ?_
  rintro e w' ⟨rfl, rfl⟩
  exact ⟨0, rfl, Below.refl _ _⟩
 ·refine (search_any b off cap ts x w hA hl hc).mono ?_
  rintro e w1 ⟨⟨q, rfl, hq⟩, n, rfl⟩
  have hqi : q = inB ts x := by
   rw [Bool.eq_iff_iff, hq, inB_iff]
   exact ⟨fun ⟨h1, h2⟩ => by rw [← h2]; simp [tv, h1], fun h => cut_mem hA h⟩
  exact ⟨(cutN x ts : Nat), by rw [hqi], below_drewN (Below.refl _ _) n⟩
theorem ul_few {wd : Int} {its : Itms} {name : ByteArray} {n : Int} {ss : List ByteArray} (hul : UL wd its name n ss true) : ss.length ≤ 375 ∧ ∀ i, (tv ss i).size ≤ 1048576 := by
 obtain ⟨h1, _, h3⟩ := hul.few
 refine ⟨h1, fun i => ?_⟩
 by_cases hi : i < ss.length
 ·have := h3 (tv ss i) (by simp [tv, hi])
  have h8 : 1 ≤ wd ∧ wd ≤ 8 := by simpa [isW] using this.2
  omega
 ·simp only [tv]; rw [List.getD_eq_getElem?_getD, List.getElem?_eq_none (by omega)]; simp
set_option maxRecDepth 100000 in
set_option maxHeartbeats 2000000 in
theorem lacked_any (B C1 C2 hb pm sb mb : Nat) (vc : Value) (nm : ByteArray) (now : Int) (full : Bool) (wd room : Int) (its : Itms) (ts : List ByteArray) (qs : PV) (pbs : List Nat) (w : World) (H : HuntAt w B C1 C2 hb pm sb mb vc nm now full wd room its ts qs pbs (.slice none 0 0) false) (hN : (sumsL wd its).Pairwise (· < ·)) (hnm : nm.size ≤ 1048576) (hsi : ∀ i, (itx its i).size ≤ 1048576) (hE : Errs w) :
  Calls Tryz.prog 90 #[.pointer (some ⟨hb, 0, none⟩)] w fun e w' => ∃ v out, e = .returned v ∧ LackU wd its nm out ∧ w'.ownsRow w.heap.size 9 1 v out.length (out.map Value.string) ∧ HuntAt w' B C1 C2 hb pm sb mb vc nm now full wd room its ts qs pbs v true ∧ But (fun b => b = hb) w w' := by
 have HTH := hid (huntThing_any hb sb mb vc wd room _ now full _ _ _ its nm w H.box H.shelf.box H.shelf.map hN hnm hsi hE)
 have HH := hid H
 have y6 : w.cell? ⟨hb, 6, none⟩ = some (.bool false) := H.box.cell 6
 clear H hN hsi hE
 go_enter Tryz.func90, Tryz.ntmps90
 go_wp2_with fail
 refine HTH.out.mono ?_
 rintro e w2 (⟨n, ss, rfl, hul, hb2⟩ | ⟨n, ss, vs, vl, vq, Bq, rfl, hul, hrd, hrow, hpo, hb2⟩)
 ·have HB2 := hid hb2
  have HLU : Hid (LackU wd its nm [nm]) := hid (.inl ⟨n, ss, hul, rfl⟩)
  have hin := fun W => lackOne (.agg #[.string nm, .string ⟨#[]⟩, .bool false]) W
  have HON := hid (oneLacked_any nm ⟨#[]⟩ false w2)
  clear hul hb2
  go_wp2_with fail
  refine HON.out.mono ?_
  rintro e w3 ⟨⟨h, _⟩ | ⟨_, g, rfl, R0⟩, hb3⟩
  ·cases h
  obtain ⟨av, lv, cv, hav⟩ : ∃ a l c, (Value.slice (some ⟨g, 0, none⟩) 1 1) = .slice a l c := ⟨_, _, _, rfl⟩
  have R3 : w3.ownsRow w.heap.size 9 1 (.slice av lv cv) 1 [.string nm] := by rw [← hav]; exact row_lower R0 HB2.out.size
  rw [hav]
  clear R0 hin hav
  have B3 : Below w.heap.size w w3 := HB2.out.trans (hb3.mono HB2.out.size)
  have X3 := HH.out.box.below B3
  have f5 := X3.fz 5
  have x5 : w3.cell? ⟨hb, 5, none⟩ = some (.slice none 0 0) := X3.cell 5
  have X4 : Blk (w3.setCell ⟨hb, 5, none⟩ (.slice av lv cv)) hb 95 #[.string nm, .int .i64 now, .bool full, .pointer (some ⟨sb, 0, none⟩), .map (some pm), .slice av lv cv, .bool false] := X3.set 5 (.slice av lv cv)
  have f6 := X4.fz 6
  have x6 : (w3.setCell ⟨hb, 5, none⟩ (.slice av lv cv)).cell? ⟨hb, 6, none⟩ = some (.bool false) := X4.cell 6
  have X5 : Blk ((w3.setCell ⟨hb, 5, none⟩ (.slice av lv cv)).setCell ⟨hb, 6, none⟩ (.bool true)) hb 95 #[.string nm, .int .i64 now, .bool full, .pointer (some ⟨sb, 0, none⟩), .map (some pm), .slice av lv cv, .bool true] := X4.set 6 (.bool true)
  have x7 : ((w3.setCell ⟨hb, 5, none⟩ (.slice av lv cv)).setCell ⟨hb, 6, none⟩ (.bool true)).cell? ⟨hb, 5, none⟩ = some (.slice av lv cv) := X5.cell 5
  have G5 := grown_same (grownBy_setCellAt w3 hb 5 (.slice av lv cv)) (grownBy_setCellAt _ hb 6 (.bool true))
  have T5 : But (fun b => b = hb) w ((w3.setCell ⟨hb, 5, none⟩ (.slice av lv cv)).setCell ⟨hb, 6, none⟩ (.bool true)) := (But.of_below (P := fun b => b = hb) B3).trans (But.of_grown (P := fun b => b = hb) G5 rfl) (fun _ _ h => h)
  have HX5 := hid (HH.out.boxed T5 X5)
  have HT5 := hid T5
  have HR5 := hid (row_far R3 G5 (fun e => by have := (R3.lt hb e).1; have := HH.out.box.lt; omega))
  clear B3 X3 X4 X5 G5 T5 R3 hb3
  go_wp2
  go_ret
  exact ⟨_, [nm], rfl, HLU.out, HR5.out, HX5.out, HT5.out⟩
 ·have HB2 := hid hb2
  obtain ⟨hfew, hss⟩ := ul_few hul
  have HLU : Hid (LackU wd its nm (lackN wd its ss ss.length)) := hid (.inr ⟨n, ss, hul, rfl⟩)
  have hin := fun W => lackWhole (.agg #[.int .i64 n, vl, .int .i64 wd, vq]) W
  obtain ⟨al, cl, hvl, _⟩ := hrd.form
  have HON := hid (wholeLacked_any wd its n vl vq ss vs Bq w2 ⟨_, _, _, hvl⟩ hrow hpo hfew hss)
  clear hul hb2 hrd hrow hpo hss hvl
  go_wp2_with fail
  refine HON.out.mono ?_
  rintro e w3 ⟨v3, rfl, R0, hb3⟩
  obtain ⟨av, cv, hav⟩ := row_any R0
  subst hav
  obtain ⟨lv, hlv⟩ : ∃ l, l = (lackN wd its ss ss.length).length := ⟨_, rfl⟩
  have R3 : w3.ownsRow w.heap.size 9 1 (.slice av lv cv) (lackN wd its ss ss.length).length ((lackN wd its ss ss.length).map Value.string) := by rw [hlv]; exact row_lower R0 (by have := HB2.out.size; omega)
  rw [← hlv]
  clear R0 hin hlv
  have B3 : Below w.heap.size w w3 := HB2.out.trans (hb3.mono HB2.out.size)
  have X3 := HH.out.box.below B3
  have f5 := X3.fz 5
  have x5 : w3.cell? ⟨hb, 5, none⟩ = some (.slice none 0 0) := X3.cell 5
  have X4 : Blk (w3.setCell ⟨hb, 5, none⟩ (.slice av lv cv)) hb 95 #[.string nm, .int .i64 now, .bool full, .pointer (some ⟨sb, 0, none⟩), .map (some pm), .slice av lv cv, .bool false] := X3.set 5 (.slice av lv cv)
  have f6 := X4.fz 6
  have x6 : (w3.setCell ⟨hb, 5, none⟩ (.slice av lv cv)).cell? ⟨hb, 6, none⟩ = some (.bool false) := X4.cell 6
  have X5 : Blk ((w3.setCell ⟨hb, 5, none⟩ (.slice av lv cv)).setCell ⟨hb, 6, none⟩ (.bool true)) hb 95 #[.string nm, .int .i64 now, .bool full, .pointer (some ⟨sb, 0, none⟩), .map (some pm), .slice av lv cv, .bool true] := X4.set 6 (.bool true)
  have x7 : ((w3.setCell ⟨hb, 5, none⟩ (.slice av lv cv)).setCell ⟨hb, 6, none⟩ (.bool true)).cell? ⟨hb, 5, none⟩ = some (.slice av lv cv) := X5.cell 5
  have G5 := grown_same (grownBy_setCellAt w3 hb 5 (.slice av lv cv)) (grownBy_setCellAt _ hb 6 (.bool true))
  have T5 : But (fun b => b = hb) w ((w3.setCell ⟨hb, 5, none⟩ (.slice av lv cv)).setCell ⟨hb, 6, none⟩ (.bool true)) := (But.of_below (P := fun b => b = hb) B3).trans (But.of_grown (P := fun b => b = hb) G5 rfl) (fun _ _ h => h)
  have HX5 := hid (HH.out.boxed T5 X5)
  have HT5 := hid T5
  have HR5 := hid (row_far R3 G5 (fun e => by have := (R3.lt hb e).1; have := HH.out.box.lt; omega))
  clear B3 X3 X4 X5 G5 T5 R3 hb3
  go_wp2
  go_ret
  exact ⟨_, lackN wd its ss ss.length, rfl, HLU.out, HR5.out, HX5.out, HT5.out⟩
set_option maxRecDepth 100000 in
set_option maxHeartbeats 2000000 in
/-- What chooser gives. -/
theorem chooserC_any (pb bx B : Nat) (p : Pr) (vn v : Value) (ls : List ByteArray) (w : World) (hp : Blk w pb 50 (pcells p vn)) (hn : Reads w vn p.nots) (hA : Asc p.nots) (hnl : p.nots.length ≤ 1048576) (hbx : Blk w bx 23 #[v]) (hr : w.ownsRow B 9 1 v ls.length (ls.map Value.string)) (hl : ls.length ≤ 1000) :
  Calls Tryz.prog 92 #[.pointer (some ⟨pb, 0, none⟩), .pointer (some ⟨bx, 0, none⟩)] w fun e w' => (e = .returned (.tuple #[.string ⟨#[]⟩, .bool false]) ∧ (∀ j, j < ls.length → inB p.nots (tv ls j) = true) ∧ Below w.heap.size w w') ∨ (∃ i v', i < ls.length ∧ e = .returned (.tuple #[.string (tv ls i), .bool true]) ∧ inB p.nots (tv ls i) = false ∧ (∀ j, j < i → inB p.nots (tv ls j) = true) ∧ Blk w' bx 23 #[v'] ∧ w'.ownsRow B 9 1 v' (ls.eraseIdx i).length ((ls.eraseIdx i).map Value.string) ∧ v'.ownBlock = v.ownBlock ∧ But (fun b => b = bx ∨ v.ownBlock = some b) w w') := by
 have HP := hid hp
 have HN := hid hn
 have HBX := hid hbx
 have HR := hid hr
 obtain ⟨av, cv, hvv⟩ := row_any hr
 subst hvv
 obtain ⟨an, cn, hvn, _⟩ := hn.form
 subst hvn
 have x0 : w.cell? ⟨bx, 0, none⟩ = some (.slice av ls.length cv) := hbx.cell 0
 have HSE := hid fun (x : ByteArray) (W : World) (h : Reads W (.slice an p.nots.length cn) p.nots) => searchRd_any _ p.nots x W h hA hnl
 clear hp hn hA hbx hr
 go_enter Tryz.func92, Tryz.ntmps92
 go_wp2
 clear x0
 go_loopw [11] (fun i' wr => ∃ k : Nat, k ≤ ls.length ∧ i' = .int .i64 k ∧ (∀ j, j < k → inB p.nots (tv ls j) = true) ∧ Below w.heap.size w wr) (fun i' _ => ls.length - (intOf i').toNat)
 case atStart => exact ⟨0, Nat.zero_le _, rfl, fun j hj => absurd hj (by omega), Below.refl _ _⟩
 case round =>
  obtain ⟨k, hk, rfl, hall, hb⟩ := hrel
  have HALL := hid hall
  have HB := hid hb
  by_cases hlt : k < ls.length
  case neg =>
   obtain rfl : k = ls.length := by omega
   clear hall hb
   go_wp2
   go_ret2
   exact .inl ⟨rfl, HALL.out, HB.out⟩
  obtain ⟨g, cap, ev, hg, hgl⟩ := World.ownsRow.form HR.out (by omega)
  obtain ⟨rfl, _, rfl⟩ : av = some ⟨g, 0, none⟩ ∧ ls.length = ls.length ∧ cv = cap := Value.slice.inj ev
  obtain ⟨x, hx⟩ : ∃ x, x = tv ls k := ⟨_, rfl⟩
  have R1 := Below.row hb HR.out
  have ck : wr.cell? ⟨g, k, none⟩ = some (.string x) := by rw [hx, R1.cellAt k (by omega)]; simp [tv, hlt]
  have c4 : wr.cell? ⟨pb, 4, none⟩ = some (.slice an p.nots.length cn) := (HP.out.below hb).cell 4
  have HS1 := hid (HSE.out x wr (HN.out.below hb))
  have HX := hid hx
  clear hall hb R1 ev hx
  go_wp2_with fail
  refine HS1.out.mono ?_
  rintro e w2 ⟨q, rfl, hb2⟩
  have B2 := HB.out.trans (hb2.mono HB.out.size)
  have HB2 := hid B2
  cases hin : inB p.nots x with
  | true =>
   have HA1 : Hid (∀ j, j < k + 1 → inB p.nots (tv ls j) = true) := hid fun j hj => (Nat.lt_or_eq_of_le (Nat.le_of_lt_succ hj)).elim (HALL.out j) (fun e => by rw [e, ← HX.out]; exact hin)
   clear hb2 B2 ck c4 hin
   go_wp2
   refine ⟨⟨k + 1, by omega, by go_simp, HA1.out, HB2.out⟩, ?_⟩
   simp [intOf]
   omega
  | false =>
   have HIN : Hid (inB p.nots (tv ls k) = false) := hid (by rw [← HX.out]; exact hin)
   have X2 := HBX.out.below B2
   have x0 : w2.cell? ⟨bx, 0, none⟩ = some (.slice (some ⟨g, 0, none⟩) ls.length cv) := X2.cell 0
   have HX2 := hid X2
   have HDE := hid (deleteOwn_any g cv k B ls w2 (Below.row B2 HR.out) hlt)
   have hwk : IntKind.i64.wrap ((k : Int) + 1) = ((k + 1 : Nat) : Int) := by rw [IntKind.wrap_i64]; omega
   have HNE : Hid (g ≠ bx) := hid fun e => row_off_blk HR.out HBX.out (by decide) (by rw [e]; rfl)
   clear hb2 B2 ck c4 hin X2
   go_wp2_with fail
   refine HDE.out.mono ?_
   rintro e w3 ⟨rfl, hg3, hr3⟩
   have X3 := HX2.out.kept hg3 (fun e => HNE.out (Option.some.inj e).symm)
   have y0 : w3.cell? ⟨bx, 0, none⟩ = some (.slice (some ⟨g, 0, none⟩) ls.length cv) := X3.cell 0
   have fy := X3.fz 0
   have HX4 : Hid (Blk (w3.setCell ⟨bx, 0, none⟩ (.slice (some ⟨g, 0, none⟩) (ls.eraseIdx k).length cv)) bx 23 #[.slice (some ⟨g, 0, none⟩) (ls.eraseIdx k).length cv]) := hid (X3.set 0 (.slice (some ⟨g, 0, none⟩) (ls.eraseIdx k).length cv))
   have G4 := grownBy_setCellAt w3 bx 0 (.slice (some ⟨g, 0, none⟩) (ls.eraseIdx k).length cv)
   have HR4 := hid (row_far hr3 G4 (fun e => HNE.out (Option.some.inj e)))
   have HT4 : Hid (But (fun b => b = bx ∨ (Value.slice (some ⟨g, 0, none⟩) ls.length cv).ownBlock = some b) w (w3.setCell ⟨bx, 0, none⟩ (.slice (some ⟨g, 0, none⟩) (ls.eraseIdx k).length cv))) := hid (((But.of_below (P := fun b => b = bx ∨ (Value.slice (some ⟨g, 0, none⟩) ls.length cv).ownBlock = some b) HB2.out).trans (But.of_grown (P := fun b => b = bx ∨ (Value.slice (some ⟨g, 0, none⟩) ls.length cv).ownBlock = some b) hg3 (.inr rfl)) (fun _ _ h => h)).trans (But.of_grown (P := fun b => b = bx ∨ (Value.slice (some ⟨g, 0, none⟩) ls.length cv).ownBlock = some b) G4 (.inl rfl)) (fun _ _ h => h))
   clear hg3 hr3 X3 G4 x0
   go_wp2
   go_ret2
   exact .inr ⟨k, _, hlt, by rw [← HX.out] <;> rfl, HIN.out, HALL.out, HX4.out, HR4.out, rfl, HT4.out⟩
end Go.Proofs.YtkghbegdjeehaaaGreatDoor
