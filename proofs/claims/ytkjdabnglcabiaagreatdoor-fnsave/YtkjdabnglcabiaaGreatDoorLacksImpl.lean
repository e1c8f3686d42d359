import Derived.Test.YtkjdabnglcabiaaGreatDoorLoadUnder
import Derived.Test.YtkjdabnglcabiaaGreatDoorManyOne
/- (wholeList).built and impl.Load. -/
namespace Go.Proofs.YtkjdabnglcabiaaGreatDoor
open Go.RowKit
set_option maxRecDepth 100000 in
set_option maxHeartbeats 1000000 in
theorem oneBuilt_any (s t : ByteArray) (there : Bool) (w : World) :
  Calls Tryz.prog 200 #[.agg #[.string s, .string t, .bool there]] w fun e w' => e = .returned (.tuple #[.string t, .bool there]) ∧ Below w.heap.size w w' := by
 have HA := hid ((Below.refl w.heap.size w).alloc (Nat.le_refl _) (.cells #[.string s, .string t, .bool there] 95))
 go_enter Tryz.func200, Tryz.ntmps200
 go_wp2
 go_quiet (fail)
 go_wp2
 go_ret2
 exact ⟨rfl, below_drewN HA.out _⟩
theorem invokeOne (x : Value) (W : World) : (callMethod (.iface 95 x) "loop.example/kilnpass/impl.built" #[]).run Tryz.prog W = .ok (.enter 200 #[x]) W := by kernel_rfl
theorem invokeWhole (x : Value) (W : World) : (callMethod (.iface 101 x) "loop.example/kilnpass/impl.built" #[]).run Tryz.prog W = .ok (.enter 202 #[x]) W := by kernel_rfl
/-- What a list with its pieces is built to. -/
def BuiltR (wd : Int) (its : Itms) (n : Int) (ss : List ByteArray) (r : Value) : Prop :=
 (∃ i, i < ss.length ∧ Absent wd its (tv ss i) ∧ r = .tuple #[.string ⟨#[]⟩, .bool false]) ∨ (∃ ps : List ByteArray, ps.length = ss.length ∧ (∀ i, i < ss.length → Found wd its (tv ss i) (tv ps i)) ∧ r = buildR n ss ps wd)
theorem BuiltR.load {wd : Int} {its : Itms} {name : ByteArray} {n : Int} {ss : List ByteArray} {r : Value} (hul : UL wd its name n ss true) (h : BuiltR wd its n ss r) : LoadR wd its name r := by
 rcases h with ⟨i, hi, ha, rfl⟩ | ⟨ps, hl, hf, rfl⟩
 ·exact .lacks n ss hul i hi ha
 ·exact .build n ss ps hul hl hf
set_option maxRecDepth 100000 in
set_option maxHeartbeats 4000000 in
theorem wholeBuilt_any (wd : Int) (its : Itms) (n : Int) (vl vp : Value) (ss : List ByteArray) (vs : List Value) (B : Nat) (w : World) (hl : Reads w vl ss) (hrow : w.ownsRow B 61 1 vp ss.length vs) (hpo : PartsOf wd its ss ss.length vs) (hfew : ss.length ≤ 1048576) (hss : ∀ i, (tv ss i).size ≤ 1048576) (hsi : ∀ i, (itx its i).size ≤ 1048576) :
  Calls Tryz.prog 202 #[.agg #[.int .i64 n, vl, .int .i64 wd, vp]] w fun e w' => ∃ r, e = .returned r ∧ BuiltR wd its n ss r ∧ Below w.heap.size w w' := by
 obtain ⟨i0, hi0, hz0, hz1, hz2⟩ := info_parts Tryz.info9
 obtain ⟨al, cl, rfl, _⟩ := hl.form
 obtain ⟨ap, cp, rfl⟩ := parts_form hrow
 have hA := (Below.refl w.heap.size w).alloc (Nat.le_refl _) (.cells #[.int .i64 n, .slice al ss.length cl, .int .i64 wd, .slice ap ss.length cp] 101)
 have HN0 := hid (Blk.new w 101 #[.int .i64 n, .slice al ss.length cl, .int .i64 wd, .slice ap ss.length cp])
 have HL := hid (hl.below hA)
 have HR := hid (part_below hrow hA)
 have HPO := hid hpo
 have HSS := hid hss
 have HSI := hid hsi
 have HA := hid hA
 clear hl hrow hpo hss hsi hA
 go_enter Tryz.func202, Tryz.ntmps202
 go_wp2_with fail
 go_loopw [4, 12] (fun v i' wr => ∃ (k : Nat) (ps : List ByteArray), k ≤ ss.length ∧ i' = .int .i64 k ∧ ps.length = k ∧ (∀ j, j < k → Found wd its (tv ss j) (tv ps j)) ∧ wr.ownsRow (w.heap.size + 1) 9 1 v k (ps.map Value.string) ∧ Below (w.heap.size + 1) (w.alloc (.cells #[.int .i64 n, .slice al ss.length cl, .int .i64 wd, .slice ap ss.length cp] 101)) wr) (fun _ i' _ => ss.length - (intOf i').toNat)
 case atStart => exact ⟨0, [], Nat.zero_le _, rfl, rfl, fun j hj => absurd hj (by omega), ⟨rfl, .inl ⟨rfl, rfl⟩⟩, Below.refl _ _⟩
 case round =>
  obtain ⟨k, ps, hk, rfl, hpl, hfd, hown, hbl⟩ := hrel
  have hbl' : Below (w.alloc (.cells #[.int .i64 n, .slice al ss.length cl, .int .i64 wd, .slice ap ss.length cp] 101)).heap.size (w.alloc (.cells #[.int .i64 n, .slice al ss.length cl, .int .i64 wd, .slice ap ss.length cp] 101)) wr := by rw [World.size_alloc]; exact hbl
  have N1 := HN0.out.below hbl'
  have HBR := hid (HA.out.trans (hbl.mono (Nat.le_succ _)))
  have hsr := hbl.size
  rw [World.size_alloc] at hsr
  have HFD := hid hfd
  have HBL := hid hbl
  have HOW := hid hown
  obtain ⟨av, cv, rfl, _⟩ := row_form hown
  by_cases hlt : k < ss.length
  case neg =>
   obtain rfl : k = ss.length := by omega
   have x0 : wr.cell? ⟨w.heap.size, 0, none⟩ = some (.int .i64 n) := N1.cell 0
   have x1 : wr.cell? ⟨w.heap.size, 1, none⟩ = some (.slice al ss.length cl) := N1.cell 1
   have x2 : wr.cell? ⟨w.heap.size, 2, none⟩ = some (.int .i64 wd) := N1.cell 2
   have hr2 : Reads wr (.slice av ss.length cv) ps := Reads.of_row (base := w.heap.size + 1) (by rw [hpl]; exact hown)
   have hpz : ∀ i, (tv ps i).size ≤ 1048576 := fun i => by
    by_cases hi : i < ps.length
    ·obtain ⟨j, _, _, e⟩ := HFD.out i (by omega)
     rw [e]
     exact HSI.out j
    ·unfold tv
     rw [List.getD_eq_getElem?_getD, List.getElem?_eq_none (by omega)]
     show (0 : Nat) ≤ 1048576
     omega
   have HBD := hid (implBuild_any n (.slice al ss.length cl) (.slice av ss.length cv) ss ps wd wr (HL.out.below hbl') hr2 (by unfold maxLen; omega) (by unfold maxLen; omega) (fun i => by have := HSS.out i; unfold tv at this; unfold maxLen; omega) (fun i => by have := hpz i; unfold tv at this; unfold maxLen; omega))
   have HLR : Hid (BuiltR wd its n ss (buildR n ss ps wd)) := .inr ⟨ps, hpl, HFD.out, rfl⟩
   obtain ⟨xb, bb, hform⟩ := build_form n ss ps wd
   rw [hform] at HBD HLR
   clear hfd hown hbl hbl' N1 hr2 hpz hform
   go_wp2_with fail
   refine HBD.out.mono ?_
   rintro e w2 ⟨rfl, hb2⟩
   have HB2 := hid (HBR.out.trans (hb2.mono HBR.out.size))
   clear hb2
   go_wp2
   go_ret2
   exact ⟨_, rfl, HLR.out, HB2.out⟩
  obtain ⟨t, b, hvk, hpc⟩ := HPO.out.2 k hlt
  have HRR := hid (part_below HR.out hbl')
  obtain ⟨g, e', hgl, hcell⟩ : ∃ g, ap = some ⟨g, 0, none⟩ ∧ g < wr.heap.size ∧ wr.cell? ⟨g, k, none⟩ = some (partV (tv ss k) t b) := by
   have hl2 := HRR.out.lt
   rcases id HRR.out with ⟨_, ⟨e1, e2⟩ | ⟨g, cap, cur, e1, _⟩⟩
   ·omega
   ·have ea : ap = some ⟨g, 0, none⟩ := (Value.slice.inj e1).1
    subst ea
    have hc := HRR.out.cellAt k (by omega)
    exact ⟨g, rfl, (hl2 g rfl).2, by rw [hc, hvk]⟩
  subst e'
  have HABS : Hid (b = false → BuiltR wd its n ss (.tuple #[.string ⟨#[]⟩, .bool false])) := fun h => .inl ⟨k, hlt, by
   rcases hpc with ⟨h1, _⟩ | ⟨_, h1, _⟩
   ·rw [h1] at h; cases h
   ·exact h1, rfl⟩
  have HNX : Hid (b = true → ∀ j, j < k + 1 → Found wd its (tv ss j) (tv (ps ++ [t]) j)) := fun h j hj => by
   have hf : Found wd its (tv ss k) t := by
    rcases hpc with ⟨_, h1⟩ | ⟨h1, _⟩
    ·exact h1
    ·rw [h1] at h; cases h
   rcases Nat.lt_or_eq_of_le (Nat.le_of_lt_succ hj) with h1 | h1
   ·have e : tv (ps ++ [t]) j = tv ps j := by unfold tv; rw [List.getD_eq_getElem?_getD, List.getElem?_append_left (by omega), ← List.getD_eq_getElem?_getD]
    rw [e]
    exact HFD.out j h1
   ·subst h1
    have e : tv (ps ++ [t]) j = t := by unfold tv; rw [← hpl]; simp
    rw [e]
    exact hf
  generalize tv ss k = x at hcell
  have HON := hid (oneBuilt_any x t b wr)
  have hin := fun W => invokeOne (.agg #[.string x, .string t, .bool b]) W
  clear hfd hown hbl hbl' N1 hvk hpc hgl
  go_wp2_with fail
  refine HON.out.mono ?_
  rintro e w3 ⟨rfl, hb3⟩
  have hrow3 := part_below HOW.out hb3
  have D3 := HBL.out.trans (hb3.mono hsr)
  have HB3 := hid (HBR.out.trans (hb3.mono HBR.out.size))
  have hs3 := hb3.size
  have HD3 := hid D3
  clear hb3 D3 hcell hin
  cases b with
  | false =>
   have HF := hid (HABS.out rfl)
   clear hrow3
   go_wp2
   go_ret2
   exact ⟨_, rfl, HF.out, HB3.out⟩
  | true =>
   have HFN := hid (HNX.out rfl)
   go_wp2_with (at_builtin; refine wpList_append_own _ rfl _ _ 24 rfl (w.heap.size + 1) 9 i0 (.string ⟨#[]⟩) 1 16 Tryz.underlying24 hi0 hz0 hz1 hz2 rfl (by decide) _ _ _ rfl (hrow3.alloc _) ⟨_, 0, none⟩ 1 1 [.string t] rfl rfl (cell_one_new _ _ _) (by simp [Value.oneCell']) (by unfold maxLen; omega) (by omega) (by simp; omega) ?_; intro v' w6 hown' hgrow _; obtain ⟨a6, c6, rfl, _⟩ := row_form hown')
   have hD6 := (HD3.out.alloc (by omega) (.cells #[.string t] 9)).grown hgrow (by simp; omega) (fun g e => (hrow3.lt g e).1)
   exact ⟨⟨k + 1, ps ++ [t], by omega, by go_num, by simp [hpl], HFN.out, by simpa using hown', hD6⟩, by simp [intOf]; omega⟩
set_option maxRecDepth 100000 in
set_option maxHeartbeats 2000000 in
theorem implLoad_any (wd room : Int) (vi vp : Value) (its : Itms) (ts : List ByteArray) (name : ByteArray) (w : World) (hi : RdI w vi its) (hp : Reads w vp ts) (hli : its.length ≤ 1048576) (hlp : ts.length ≤ 1048576) (hsi : ∀ i, (itx its i).size ≤ 1048576) (hsp : ∀ i, (tv ts i).size ≤ 1048576) (hns : name.size ≤ 1048576) (hE : Errs w) :
  Calls Tryz.prog 9 #[.agg #[.int .i64 wd, .int .i64 room, vi, vp], .string name] w fun e w' => ∃ r, e = .returned r ∧ LoadV wd room its ts name r ∧ Below w.heap.size w w' := by
 obtain ⟨ai, ci, rfl, _⟩ := id hi
 obtain ⟨ap, cp, rfl, _⟩ := hp.form
 have hA := (Below.refl w.heap.size w).alloc (Nat.le_refl _) (.cells #[.int .i64 wd, .int .i64 room, .slice ai its.length ci, .slice ap ts.length cp] 26)
 have HO := hid (openStore_any wd room (.slice ai its.length ci) (.slice ap ts.length cp) its ts _ (hi.below hA) (hp.below hA) hli hlp hsi hsp)
 have HA := hid hA
 have HE := hid hE
 have HSI := hid hsi
 clear hi hp hA hsi hsp hE
 go_enter Tryz.func9, Tryz.ntmps9
 go_wp2_with fail
 refine HO.out.mono ?_
 rintro e w1 (⟨hn, rfl, hb1⟩ | ⟨hv, sb, mb, vc, rfl, hsh, hb1⟩)
 ·have HB := hid (HA.out.trans (hb1.mono (by simp)))
  have HNV := hid hn
  clear hn hb1
  go_wp2
  go_ret2
  exact ⟨_, rfl, .inl ⟨HNV.out, rfl⟩, HB.out⟩
 ·have B1 := HA.out.trans (hb1.mono (by simp))
  have HUN := hid (under_any sb mb vc wd room _ its name w1 hsh.box hsh.map (sums_asc hv.each) hns HSI.out (HE.out.below B1))
  have HB1 := hid B1
  have HV := hid hv
  clear hv hsh hb1 B1
  go_wp2_with fail
  refine HUN.out.mono ?_
  rintro e w2 (⟨n, ss, t, b, rfl, hul, hpc, hb2⟩ | ⟨n, ss, vs, vl, vq, B, rfl, hul, hrd, hrow, hpo, hb2⟩)
  ·have HB2 := hid (HB1.out.trans (hb2.mono HB1.out.size))
   have HLV : Hid (LoadV wd room its ts name (.tuple #[.string ⟨#[]⟩, .bool false])) := .inr ⟨HV.out, .none n ss hul⟩
   have HAT := hid (asThing_one name t b w2)
   have hin := fun W => invokeOne (.agg #[.string name, .string ⟨#[]⟩, .bool false]) W
   clear hul hpc hb2
   go_wp2_with fail
   refine HAT.out.mono ?_
   rintro e w3 ⟨rfl, hb3⟩
   have HB3 := hid (HB2.out.trans (hb3.mono HB2.out.size))
   have HON := hid (oneBuilt_any name ⟨#[]⟩ false w3)
   clear hb3
   go_wp2_with fail
   refine HON.out.mono ?_
   rintro e w4 ⟨rfl, hb4⟩
   have HB4 := hid (HB3.out.trans (hb4.mono HB3.out.size))
   clear hb4
   go_wp2
   go_ret2
   exact ⟨_, rfl, HLV.out, HB4.out⟩
  ·have HB2 := hid (HB1.out.trans (hb2.mono HB1.out.size))
   obtain ⟨hfew, _, hssz⟩ := hul.few
   have hss : ∀ i, (tv ss i).size ≤ 1048576 := fun i => by
    by_cases hi : i < ss.length
    ·have hm : tv ss i ∈ ss := by unfold tv; rw [List.getD_eq_getElem?_getD, List.getElem?_eq_getElem hi]; exact List.getElem_mem hi
     obtain ⟨e, hw⟩ := hssz _ hm
     have : 1 ≤ wd ∧ wd ≤ 8 := of_decide_eq_true hw
     omega
    ·unfold tv
     rw [List.getD_eq_getElem?_getD, List.getElem?_eq_none (by omega)]
     show (0 : Nat) ≤ 1048576
     omega
   have HLV : Hid (∀ r, BuiltR wd its n ss r → LoadV wd room its ts name r) := fun r h => .inr ⟨HV.out, h.load hul⟩
   have HAT := hid (asThing_whole (.agg #[.int .i64 n, vl, .int .i64 wd, vq]) w2)
   have hin := fun W => invokeWhole (.agg #[.int .i64 n, vl, .int .i64 wd, vq]) W
   have HWB := hid fun (W : World) (h1 : Reads W vl ss) (h2 : W.ownsRow B 61 1 vq ss.length vs) => wholeBuilt_any wd its n vl vq ss vs B W h1 h2 hpo (by omega) hss HSI.out
   have HRD := hid hrd
   have HRW := hid hrow
   clear hul hrd hrow hpo hb2 hss hssz
   go_wp2_with fail
   refine HAT.out.mono ?_
   rintro e w3 ⟨rfl, hb3⟩
   have HB3 := hid (HB2.out.trans (hb3.mono HB2.out.size))
   have HON := hid (HWB.out w3 (HRD.out.below hb3) (part_below HRW.out hb3))
   clear hb3
   go_wp2_with fail
   refine HON.out.mono ?_
   rintro e w4 ⟨r, rfl, hr, hb4⟩
   obtain ⟨xr, br, hrf⟩ : ∃ x b, r = .tuple #[.string x, .bool b] := by
    rcases hr with ⟨_, _, _, rfl⟩ | ⟨ps, _, _, rfl⟩
    ·exact ⟨_, _, rfl⟩
    ·exact build_form n ss ps wd
   subst hrf
   have HB4 := hid (HB3.out.trans (hb4.mono HB3.out.size))
   have HLR := hid (HLV.out _ hr)
   clear hb4 hr
   go_wp2
   go_ret2
   exact ⟨_, rfl, HLR.out, HB4.out⟩
end Go.Proofs.YtkjdabnglcabiaaGreatDoor
/- onePiece.lacked, wholeList.lacked, impl.Lacks. -/
namespace Go.Proofs.YtkjdabnglcabiaaGreatDoor
open Go.RowKit
theorem lackOne (x : Value) (W : World) : (callMethod (.iface 95 x) "loop.example/kilnpass/impl.lacked" #[]).run Tryz.prog W = .ok (.enter 201 #[x]) W := by kernel_rfl
theorem lackWhole (x : Value) (W : World) : (callMethod (.iface 101 x) "loop.example/kilnpass/impl.lacked" #[]).run Tryz.prog W = .ok (.enter 203 #[x]) W := by kernel_rfl
theorem row_lower {w : World} {B B' n : Nat} {v : Value} {xs : List Value} (h : w.ownsRow B 9 1 v n xs) (hb : B' ≤ B) : w.ownsRow B' 9 1 v n xs :=
 ⟨h.1, h.2.imp id (fun ⟨g, cap, cur, e, h1, r⟩ => ⟨g, cap, cur, e, Nat.le_trans hb h1, r⟩)⟩
theorem row_one (w : World) (s : ByteArray) (B : Nat) (hB : B ≤ w.heap.size) : (w.alloc (.cells #[.string s] 9)).ownsRow B 9 1 (.slice (some ⟨w.heap.size, 0, none⟩) 1 1) 1 [.string s] :=
 ⟨by simp, .inr ⟨w.heap.size, 1, #[.string s], rfl, hB, World.alloc_heap_new w _, Nat.le_refl _, by simp [maxLen], by simp, by simp⟩⟩
set_option maxRecDepth 100000 in
set_option maxHeartbeats 1000000 in
theorem oneLacked_any (s t : ByteArray) (there : Bool) (w : World) :
  Calls Tryz.prog 201 #[.agg #[.string s, .string t, .bool there]] w fun e w' => ((there = true ∧ e = .returned (.slice none 0 0)) ∨ (there = false ∧ ∃ g, e = .returned (.slice (some ⟨g, 0, none⟩) 1 1) ∧ w'.ownsRow w.heap.size 9 1 (.slice (some ⟨g, 0, none⟩) 1 1) 1 [.string s])) ∧ Below w.heap.size w w' := by
 have HA := hid ((Below.refl w.heap.size w).alloc (Nat.le_refl _) (.cells #[.string s, .string t, .bool there] 95))
 cases there with
 | true =>
  go_enter Tryz.func201, Tryz.ntmps201
  go_wp2
  go_ret
  exact ⟨.inl ⟨trivial, rfl⟩, HA.out⟩
 | false =>
  have R := row_one (w.alloc (.cells #[.string s, .string t, .bool false] 95)) s w.heap.size (by simp)
  rw [World.size_alloc] at R
  have HR := hid R
  have HB := hid (HA.out.alloc HA.out.size (.cells #[.string s] 9))
  clear R
  go_enter Tryz.func201, Tryz.ntmps201
  go_wp2
  go_ret
  exact ⟨.inr ⟨trivial, _, rfl, HR.out⟩, HB.out⟩
set_option maxRecDepth 100000 in
set_option maxHeartbeats 8000000 in
theorem wholeLacked_any (wd : Int) (its : Itms) (n : Int) (vl vp : Value) (ss : List ByteArray) (vs : List Value) (B : Nat) (w : World) (hl : ∃ a l c, vl = .slice a l c) (hrow : w.ownsRow B 61 1 vp ss.length vs) (hpo : PartsOf wd its ss ss.length vs) (hfew : ss.length ≤ 375) (hss : ∀ i, (tv ss i).size ≤ 1048576) :
  Calls Tryz.prog 203 #[.agg #[.int .i64 n, vl, .int .i64 wd, vp]] w fun e w' => ∃ v, e = .returned v ∧ w'.ownsRow (w.heap.size + 2) 9 1 v (lackN wd its ss ss.length).length ((lackN wd its ss ss.length).map Value.string) ∧ Below w.heap.size w w' := by
 obtain ⟨i0, hi0, hz0, hz1, hz2⟩ := info_parts Tryz.info9
 obtain ⟨al, ll, cl, rfl⟩ := hl
 obtain ⟨ap, cp, rfl⟩ := parts_form hrow
 have hA := (Below.refl w.heap.size w).alloc (Nat.le_refl _) (.cells #[.int .i64 n, .slice al ll cl, .int .i64 wd, .slice ap ss.length cp] 101)
 have hM := hA.alloc hA.size (.map #[] 0)
 have hmk := makeSet (w.alloc (.cells #[.int .i64 n, .slice al ll cl, .int .i64 wd, .slice ap ss.length cp] 101))
 rw [World.size_alloc] at hmk
 have M0 : ((w.alloc (.cells #[.int .i64 n, .slice al ll cl, .int .i64 wd, .slice ap ss.length cp] 101)).alloc (.map #[] 0)).ownsMap Tryz.prog 9 unitE (w.heap.size + 1) 0 (.map []) := by
  have := World.ownsMap_made (w.alloc (.cells #[.int .i64 n, .slice al ll cl, .int .i64 wd, .slice ap ss.length cp] 101)) Tryz.prog 9 unitE
  rw [World.size_alloc] at this
  exact this
 have HM0 := hid M0
 have HR := hid (part_below hrow hA)
 have HPO := hid hpo
 have HSS := hid hss
 have HA := hid hA
 have HM := hid hM
 have hN : (w.alloc (.cells #[.int .i64 n, .slice al ll cl, .int .i64 wd, .slice ap ss.length cp] 101)).cell? ⟨w.heap.size, 3, none⟩ = some (.slice ap ss.length cp) := (Blk.new w 101 _).cell 3
 have hN1 : ∀ o, ((w.alloc (.cells #[.int .i64 n, .slice al ll cl, .int .i64 wd, .slice ap ss.length cp] 101)).alloc o).cell? ⟨w.heap.size, 3, none⟩ = some (.slice ap ss.length cp) := fun o => ((Blk.new w 101 _).alloc o).cell 3
 clear hrow hpo hss hA hM M0
 go_enter Tryz.func203, Tryz.ntmps203
 go_wp2_with fail
 clear hmk hN hN1
 go_loopw [3, 15] (fun v i' wr => ∃ (k nn : Nat) (D : DataW Unit), k ≤ ss.length ∧ i' = .int .i64 k ∧ wr.ownsRow (w.heap.size + 2) 9 1 v (lackN wd its ss k).length ((lackN wd its ss k).map Value.string) ∧ wr.ownsMap Tryz.prog 9 unitE (w.heap.size + 1) nn D ∧ nn ≤ k ∧ SetIs D (fun x => x ∈ lackN wd its ss k) ∧ Below (w.heap.size + 1) (w.alloc (.cells #[.int .i64 n, .slice al ll cl, .int .i64 wd, .slice ap ss.length cp] 101)) wr ∧ w.heap.size + 2 ≤ wr.heap.size) (fun _ i' _ => ss.length - (intOf i').toNat)
 case atStart => exact ⟨0, 0, _, Nat.zero_le _, rfl, ⟨rfl, .inl ⟨rfl, rfl⟩⟩, HM0.out, Nat.le_refl _, SetIs.none (fun x h => by cases h), (Below.refl _ _).alloc (by simp) _, by simp⟩
 case round =>
  obtain ⟨k, nn, D, hk, rfl, hown, hmap, hnn, hset, hbl, hsz⟩ := hrel
  have hbl' : Below (w.alloc (.cells #[.int .i64 n, .slice al ll cl, .int .i64 wd, .slice ap ss.length cp] 101)).heap.size (w.alloc (.cells #[.int .i64 n, .slice al ll cl, .int .i64 wd, .slice ap ss.length cp] 101)) wr := by rw [World.size_alloc]; exact hbl
  have hlen := lackN_len wd its ss k
  have HOW := hid hown
  have HMP := hid hmap
  have HST := hid hset
  have HBL := hid hbl
  obtain ⟨av, cv, rfl, _⟩ := row_form hown
  by_cases hlt : k < ss.length
  case neg =>
   obtain rfl : k = ss.length := by omega
   have HB := hid (HA.out.trans (hbl.mono (Nat.le_succ _)))
   clear hown hmap hset hbl hbl'
   go_wp2
   go_ret
   exact ⟨_, rfl, HOW.out, HB.out⟩
  obtain ⟨t, b, hvk, hpc⟩ := HPO.out.2 k hlt
  have HRR := hid (part_below HR.out hbl')
  obtain ⟨g, e', hgl, hcell⟩ : ∃ g, ap = some ⟨g, 0, none⟩ ∧ g < wr.heap.size ∧ wr.cell? ⟨g, k, none⟩ = some (partV (tv ss k) t b) := by
   have hl2 := HRR.out.lt
   rcases id HRR.out with ⟨_, ⟨e1, e2⟩ | ⟨g, cap, cur, e1, _⟩⟩
   ·omega
   ·have ea : ap = some ⟨g, 0, none⟩ := (Value.slice.inj e1).1
    subst ea
    have hc := HRR.out.cellAt k (by omega)
    exact ⟨g, rfl, (hl2 g rfl).2, by rw [hc, hvk]⟩
  subst e'
  have HSUC := hid (lackN_succ (wd := wd) (its := its) hlt)
  have hxs := HSS.out k
  have HPC := hid hpc
  generalize tv ss k = x at hcell HSUC hxs HPC
  have HON := hid (oneLacked_any x t b wr)
  have hin := fun W => lackOne (.agg #[.string x, .string t, .bool b]) W
  clear hown hmap hset hbl hbl' hvk hpc hgl
  go_wp2_with fail
  refine HON.out.mono ?_
  rintro e w3 ⟨hcase, hb3⟩
  have hs3 := hb3.size
  have D3 := HBL.out.trans (hb3.mono (by omega))
  have R3 := Below.row hb3 HOW.out
  have M3 := HMP.out.kept (grown_of_below hb3) (by simp)
  have HD3 := hid D3
  have HR3 := hid R3
  have HM3 := hid M3
  have hml := M3.lt
  clear hb3 D3 R3 M3 hcell hin
  rcases hcase with ⟨rfl, rfl⟩ | ⟨rfl, g3, rfl, hrow3⟩
  ·have HE : Hid (lackN wd its ss (k + 1) = lackN wd its ss k) := by
    show lackN wd its ss (k + 1) = lackN wd its ss k
    rw [HSUC.out]
    rcases HPC.out with ⟨_, h⟩ | ⟨h, _⟩
    ·exact addL_have h
    ·cases h
   go_wp2_with fail
   go_loopw [3, 22] (fun v i' wz => v = .slice av (lackN wd its ss k).length cv ∧ i' = .int .i64 0 ∧ wz = w3) (fun _ _ _ => 0)
   case atStart => exact ⟨rfl, rfl, rfl⟩
   case round =>
    obtain ⟨rfl, rfl, rfl⟩ := hrel
    go_wp2
    exact ⟨⟨k + 1, nn, D, by omega, by go_num, by rw [HE.out]; exact HR3.out, HM3.out, by omega, by rw [HE.out]; exact HST.out, HD3.out, by omega⟩, by simp [intOf]; omega⟩
  ·have hab : Absent wd its x := by
    rcases HPC.out with ⟨h, _⟩ | ⟨_, h, _⟩
    ·cases h
    ·exact h
   have HAB := hid hab
   have hc3 : w3.cell? ⟨g3, 0, none⟩ = some (.string x) := hrow3.cellAt 0 (by omega)
   clear hab hrow3
   go_wp2_with fail
   go_loopw [3, 22] (fun v i' wz => ∃ (m nn' : Nat) (D' : DataW Unit) (o' : List ByteArray), i' = .int .i64 m ∧ ((m = 0 ∧ wz = w3 ∧ v = .slice av (lackN wd its ss k).length cv) ∨ (m = 1 ∧ o' = lackN wd its ss (k + 1) ∧ wz.ownsRow (w.heap.size + 2) 9 1 v o'.length (o'.map Value.string) ∧ wz.ownsMap Tryz.prog 9 unitE (w.heap.size + 1) nn' D' ∧ nn' ≤ k + 1 ∧ SetIs D' (fun y => y ∈ o') ∧ Below (w.heap.size + 1) (w.alloc (.cells #[.int .i64 n, .slice al ll cl, .int .i64 wd, .slice (some ⟨g, 0, none⟩) ss.length cp] 101)) wz ∧ w.heap.size + 2 ≤ wz.heap.size))) (fun _ i' _ => 1 - (intOf i').toNat)
   case atStart => exact ⟨0, 0, D, [], rfl, .inl ⟨rfl, rfl, rfl⟩⟩
   case round =>
    obtain ⟨m, nn', D', o', rfl, ⟨rfl, rfl, rfl⟩ | ⟨rfl, rfl, hown', hmap', hnn', hset', hbl', hsz'⟩⟩ := hrel
    ·have hmm := HM3.out
     cases hin : inB (lackN wd its ss k) x with
     | true =>
      have hhas : Maps.has D (.string x.data.toList) = true := (HST.out.has x).2 ((inB_iff _ _).1 hin)
      have HE : Hid (lackN wd its ss k = lackN wd its ss (k + 1)) := (HSUC.out.trans (addL_told hin)).symm
      clear hin
      go_wp2_with (at_lookup; refine wpList_look_unit _ rfl _ _ rfl (w.heap.size + 1) nn D (by go_simp) hmm x (by unfold maxLen; omega) (by go_simp) true hhas ?_)
      exact ⟨⟨1, nn, D, _, by go_num, .inr ⟨rfl, HE.out, HR3.out.alloc _, HM3.out.alloc _, by omega, HST.out, HD3.out.alloc (by omega) _, by simp; omega⟩⟩, by simp [intOf]⟩
     | false =>
      have hhas : Maps.has D (.string x.data.toList) = false := by
       cases hh : Maps.has D (.string x.data.toList) with
       | false => rfl
       | true => rw [(inB_iff _ _).2 ((HST.out.has x).1 hh)] at hin; cases hin
      have HE : Hid (lackN wd its ss k ++ [x] = lackN wd its ss (k + 1)) := (HSUC.out.trans (addL_new HAB.out hin)).symm
      have HS2 : Hid (SetIs (D.put (.string x.data.toList) (.agg [])) (fun y => y ∈ lackN wd its ss k ++ [x])) := HST.out.put x (fun y => by rw [List.mem_append, List.mem_singleton]; exact Or.comm) _
      have ma := hmm.alloc (.cells #[] 152)
      clear hin
      go_wp2_with (first | (at_lookup; refine wpList_look_unit _ rfl _ _ rfl (w.heap.size + 1) nn D (by go_simp) hmm x (by unfold maxLen; omega) (by go_simp) false hhas ?_) | (at_mapUpdate; refine wpList_mapUpdate_own _ rfl _ _ _ 146 rfl 9 152 keyed9 Tryz.underlying146 unitE (w.heap.size + 1) nn D rfl ma (by unfold maxLen; omega) _ _ _ rfl rfl (key9 x (by unfold maxLen; omega)) (.agg []) [] unitE_mk ?_; intro w4 hown4 hgrow4; have hr4 := row_kept (HR3.out.alloc (.cells #[] 152)) hgrow4 (by omega); have hs4 := hgrow4.size; rw [World.size_alloc] at hs4; have hb4 := (HD3.out.alloc (by omega) (.cells #[] 152)).grown hgrow4 (by simp; omega) (fun g e => by cases e; exact Nat.le_refl _)) | (at_builtin; refine wpList_append_own _ rfl _ _ 24 rfl (w.heap.size + 2) 9 i0 (.string ⟨#[]⟩) 1 16 Tryz.underlying24 hi0 hz0 hz1 hz2 rfl (by decide) _ _ _ rfl (hr4.alloc _) ⟨_, 0, none⟩ 1 1 [.string x] rfl rfl (cell_one_new _ _ _) (by simp [Value.oneCell']) (by unfold maxLen; omega) (by omega) (by simp; omega) ?_; intro v' w6 hown' hgrow _; obtain ⟨a6, c6, rfl, _⟩ := row_form hown'))
      have hm6 := (hown4.alloc (.cells #[.string x] 9)).kept hgrow (fun e => by have := (hr4.lt _ e.symm).1; omega)
      have hb6 := (hb4.alloc (by omega) (.cells #[.string x] 9)).grown hgrow (by simp; omega) (fun g e => by have := (hr4.lt g e).1; omega)
      have hs6 := hgrow.size
      rw [World.size_alloc] at hs6
      exact ⟨⟨1, nn + 1, _, lackN wd its ss k ++ [x], by go_num, .inr ⟨rfl, HE.out, by simpa using hown', hm6, by omega, HS2.out, hb6, by omega⟩⟩, by simp [intOf]⟩
    ·have HO := hid hown'
     have HMm := hid hmap'
     have HSm := hid hset'
     have HBm := hid hbl'
     obtain ⟨a7, c7, rfl, _⟩ := row_form hown'
     clear hown' hmap' hset' hbl'
     go_wp2
     exact ⟨⟨k + 1, nn', D', by omega, by go_num, HO.out, HMm.out, by omega, HSm.out, HBm.out, hsz'⟩, by simp [intOf]; omega⟩
set_option maxRecDepth 100000 in
set_option maxHeartbeats 4000000 in
theorem implLacks_any (wd room : Int) (vi vp : Value) (its : Itms) (ts out : List ByteArray) (name : ByteArray) (w : World) (hi : RdI w vi its) (hp : Reads w vp ts) (hli : its.length ≤ 1048576) (hlp : ts.length ≤ 1048576) (hsi : ∀ i, (itx its i).size ≤ 1048576) (hsp : ∀ i, (tv ts i).size ≤ 1048576) (hns : name.size ≤ 1048576) (hout : LacksV wd room its ts name out) (hE : Errs w) :
  Calls Tryz.prog 10 #[.agg #[.int .i64 wd, .int .i64 room, vi, vp], .string name] w fun e w' => ∃ v, e = .returned v ∧ w'.ownsRow (w.heap.size + 1) 9 1 v out.length (out.map Value.string) ∧ Below w.heap.size w w' := by
 obtain ⟨ai, ci, rfl, _⟩ := id hi
 obtain ⟨ap, cp, rfl, _⟩ := hp.form
 have hA := (Below.refl w.heap.size w).alloc (Nat.le_refl _) (.cells #[.int .i64 wd, .int .i64 room, .slice ai its.length ci, .slice ap ts.length cp] 26)
 have HO := hid (openStore_any wd room (.slice ai its.length ci) (.slice ap ts.length cp) its ts _ (hi.below hA) (hp.below hA) hli hlp hsi hsp)
 have HN0 := hid (Blk.new w 26 #[.int .i64 wd, .int .i64 room, .slice ai its.length ci, .slice ap ts.length cp])
 have HA := hid hA
 have HE := hid hE
 have HSI := hid hsi
 have HOUT := hid hout
 clear hi hp hA hsi hsp hout hE
 go_enter Tryz.func10, Tryz.ntmps10
 go_wp2_with fail
 refine HO.out.mono ?_
 rintro e w1 (⟨hn, rfl, hb1⟩ | ⟨hv, sb, mb, vc, rfl, hsh, hb1⟩)
 ·have HB := hid (HA.out.trans (hb1.mono (by simp)))
  have ho : out = [] := by
   rcases HOUT.out with ⟨_, h⟩ | ⟨⟨h, _⟩, _⟩
   ·exact h
   ·exact absurd h hn
  subst ho
  clear hn hb1
  go_wp2
  go_ret
  exact ⟨_, rfl, World.ownsRow_nil _ _ _ _, HB.out⟩
 have B1 := HA.out.trans (hb1.mono (by simp))
 have N1 := HN0.out.below hb1
 have c0 : w1.cell? ⟨w.heap.size, 0, none⟩ = some (.int .i64 wd) := N1.cell 0
 have hs1 := hb1.size
 rw [World.size_alloc] at hs1
 by_cases hsz : (name.size : Int) = wd
 case neg =>
  have ho : out = [] := by
   rcases HOUT.out with ⟨_, h⟩ | ⟨⟨_, h⟩, _⟩
   ·exact h
   ·exact absurd h hsz
  subst ho
  have HB := hid B1
  clear hsh hb1 B1 N1 hv
  go_wp2
  go_ret
  exact ⟨_, rfl, World.ownsRow_nil _ _ _ _, HB.out⟩
 have hlu : LackU wd its name out := by
  rcases HOUT.out with ⟨h, _⟩ | ⟨_, h⟩
  ·exact absurd ⟨hv, hsz⟩ h
  ·exact h
 have hasc := sums_asc hv.each
 have HUN := hid (under_any sb mb vc wd room _ its name w1 hsh.box hsh.map hasc hns HSI.out (HE.out.below B1))
 have HB1 := hid B1
 have HU := hid fun o (h : LackU wd its name o) => hlu.uniq hasc h
 have HSZ : Hid (out.length ≤ 1048576 ∧ ∀ i, (tv out i).size ≤ 1048576) := by
  obtain ⟨h1, h2⟩ := hlu.few
  refine ⟨by omega, fun i => ?_⟩
  by_cases hi : i < out.length
  ·have hm : tv out i ∈ out := by unfold tv; rw [List.getD_eq_getElem?_getD, List.getElem?_eq_getElem hi]; exact List.getElem_mem hi
   rcases h2 _ hm with e | ⟨e, hw⟩
   ·rw [e]; exact hns
   ·have : 1 ≤ wd ∧ wd ≤ 8 := of_decide_eq_true hw
    omega
  ·unfold tv
   rw [List.getD_eq_getElem?_getD, List.getElem?_eq_none (by omega)]
   show (0 : Nat) ≤ 1048576
   omega
 clear hv hsh hb1 B1 N1 hlu hasc
 go_wp2_with fail
 refine HUN.out.mono ?_
 rintro e w2 (⟨n, ss, t, b, rfl, hul, hpc, hb2⟩ | ⟨n, ss, vs, vl, vq, B, rfl, hul, hrd, hrow, hpo, hb2⟩)
 ·have HB2 := hid (HB1.out.trans (hb2.mono HB1.out.size))
  obtain rfl : out = [name] := HU.out _ (.inl ⟨n, ss, hul, rfl⟩)
  have HAT := hid (asThing_one name t b w2)
  have hin := fun W => lackOne (.agg #[.string name, .string ⟨#[]⟩, .bool false]) W
  have hs2 := hb2.size
  clear hul hpc hb2 c0
  go_wp2_with fail
  refine HAT.out.mono ?_
  rintro e w3 ⟨rfl, hb3⟩
  have HB3 := hid (HB2.out.trans (hb3.mono HB2.out.size))
  have HON := hid (oneLacked_any name ⟨#[]⟩ false w3)
  have hs3 := hb3.size
  clear hb3
  go_wp2_with fail
  refine HON.out.mono ?_
  rintro e w4 ⟨⟨h, _⟩ | ⟨_, g, rfl, hrow4⟩, hb4⟩
  ·cases h
  have HB4 := hid (HB3.out.trans (hb4.mono HB3.out.size))
  have HCL := hid (cloneTexts_any _ [name] w4 (Reads.of_row hrow4) HSZ.out.1 HSZ.out.2)
  have hs4 := hb4.size
  clear hb4 hrow4 hin
  go_wp2_with fail
  refine HCL.out.mono ?_
  rintro e w5 ⟨v5, rfl, ho5, hb5⟩
  have HB5 := hid (HB4.out.trans (hb5.mono HB4.out.size))
  have HO5 := hid ho5
  clear ho5 hb5
  go_wp2
  go_ret
  exact ⟨_, rfl, row_lower HO5.out (by omega), HB5.out⟩
 ·have HB2 := hid (HB1.out.trans (hb2.mono HB1.out.size))
  obtain ⟨hfew, _, hssz⟩ := hul.few
  obtain rfl : out = lackN wd its ss ss.length := HU.out _ (.inr ⟨n, ss, hul, rfl⟩)
  have hss : ∀ i, (tv ss i).size ≤ 1048576 := fun i => by
   by_cases hi : i < ss.length
   ·have hm : tv ss i ∈ ss := by unfold tv; rw [List.getD_eq_getElem?_getD, List.getElem?_eq_getElem hi]; exact List.getElem_mem hi
    obtain ⟨e, hw⟩ := hssz _ hm
    have : 1 ≤ wd ∧ wd ≤ 8 := of_decide_eq_true hw
    omega
   ·unfold tv
    rw [List.getD_eq_getElem?_getD, List.getElem?_eq_none (by omega)]
    show (0 : Nat) ≤ 1048576
    omega
  have HAT := hid (asThing_whole (.agg #[.int .i64 n, vl, .int .i64 wd, vq]) w2)
  have hin := fun W => lackWhole (.agg #[.int .i64 n, vl, .int .i64 wd, vq]) W
  obtain ⟨al, cl, hvl, _⟩ := hrd.form
  have HWB := hid fun (W : World) (h2 : W.ownsRow B 61 1 vq ss.length vs) => wholeLacked_any wd its n vl vq ss vs B W ⟨_, _, _, hvl⟩ h2 hpo hfew hss
  have HRW := hid hrow
  have hs2 := hb2.size
  clear hul hrd hrow hpo hb2 hss hssz hvl c0
  go_wp2_with fail
  refine HAT.out.mono ?_
  rintro e w3 ⟨rfl, hb3⟩
  have HB3 := hid (HB2.out.trans (hb3.mono HB2.out.size))
  have HON := hid (HWB.out w3 (part_below HRW.out hb3))
  have hs3 := hb3.size
  clear hb3
  go_wp2_with fail
  refine HON.out.mono ?_
  rintro e w4 ⟨v4, rfl, ho4, hb4⟩
  have HB4 := hid (HB3.out.trans (hb4.mono HB3.out.size))
  have HCL := hid (cloneTexts_any _ _ w4 (Reads.of_row ho4) HSZ.out.1 HSZ.out.2)
  have hs4 := hb4.size
  clear hb4 ho4 hin
  go_wp2_with fail
  refine HCL.out.mono ?_
  rintro e w5 ⟨v5, rfl, ho5, hb5⟩
  have HB5 := hid (HB4.out.trans (hb5.mono HB4.out.size))
  have HO5 := hid ho5
  clear ho5 hb5
  go_wp2
  go_ret
  exact ⟨_, rfl, row_lower HO5.out (by omega), HB5.out⟩
end Go.Proofs.YtkjdabnglcabiaaGreatDoor
