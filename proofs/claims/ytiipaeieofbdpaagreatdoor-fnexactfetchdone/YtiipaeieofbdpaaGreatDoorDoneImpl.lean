import Derived.Test.YtiipaeieofbdpaaGreatDoorLoadBuilt
import Derived.Test.YtiipaeieofbdpaaGreatDoorOpenFetch
import Derived.Test.YtiipaeieofbdpaaGreatDoorFetchValid
/- (*impl.hunt).thing: what the store of a hunt has under its name. -/
namespace Go.Proofs.YtiipaeieofbdpaaGreatDoor
open Go.RowKit
/-- What thing answers. -/
def ThingR (wd : Int) (its : Itms) (name : ByteArray) (w : World) (e : Ending) (w' : World) : Prop :=
  (∃ n ss, e = .returned (.iface 153 (.agg #[.string name, .string ⟨#[]⟩, .bool false])) ∧ UL wd its name n ss false ∧ Below w.heap.size w w') ∨
  (∃ n ss vs vl vp B, e = .returned (.iface 158 (.agg #[.int .i64 n, vl, .int .i64 wd, vp])) ∧ UL wd its name n ss true ∧ Reads w' vl ss ∧ w'.ownsRow B 64 1 vp ss.length vs ∧ PartsOf wd its ss ss.length vs ∧ Below w.heap.size w w')
set_option maxRecDepth 100000 in
set_option maxHeartbeats 2000000 in
theorem huntThing_any (hb sb mb : Nat) (vc : Value) (wd room tot now : Int) (full : Bool) (vm lv : Value) (lk : Bool) (its : Itms) (name : ByteArray) (w : World) (hbx : Blk w hb 115 #[.string name, .int .i64 now, .bool full, .pointer (some ⟨sb, 0, none⟩), vm, lv, .bool lk]) (hbox : Blk w sb 111 #[.int .i64 wd, .int .i64 room, .int .i64 tot, .map (some mb), vc]) (hmap : w.ownsMap Tryz.prog 9 itemElem mb its.length (mapI wd its its.length)) (hN : (sumsL wd its).Pairwise (· < ·)) (hs : name.size ≤ 1048576) (hsi : ∀ i, (itx its i).size ≤ 1048576) (hE : Errs w) :
    Calls Tryz.prog 29 #[.pointer (some ⟨hb, 0, none⟩)] w (ThingR wd its name w) := by
  have hbd : Below w.heap.size w w.drew := below_drewN (Below.refl _ _) 1
  have HUN := hid (under_any sb mb vc wd room tot its name w.drew (hbox.below hbd) hmap.drew hN hs hsi (hE.below hbd))
  clear hbd
  have y0 : w.cell? ⟨hb, 0, none⟩ = some (.string name) := hbx.cell 0
  have y3 : w.cell? ⟨hb, 3, none⟩ = some (.pointer (some ⟨sb, 0, none⟩)) := hbx.cell 3
  have hS0 : w.drew.cell? ⟨hb, 0, none⟩ = some (.string name) ∧ w.drew.cell? ⟨hb, 3, none⟩ = some (.pointer (some ⟨sb, 0, none⟩)) := ⟨y0, y3⟩
  have HBX := hid hbx
  have hec := enters_of Tryz.func68 (by kernel_rfl) rfl
  have hec2 := enters_of Tryz.func67 (by kernel_rfl) rfl
  clear hbox hmap hN hs hsi hE hbx y0 y3
  go_enter Tryz.func29, Tryz.ntmps29
  go_wp2_with fail
  refine wp_region_held (S := fun w' => w'.cell? ⟨hb, 0, none⟩ = some (.string name) ∧ w'.cell? ⟨hb, 3, none⟩ = some (.pointer (some ⟨sb, 0, none⟩))) (by kernel_rfl) ?_
  change wpAnyH _ _ _ _ _ _ _ _ (World.drew _)
  refine wpAnyH_take (i := 0) (v := .pointer (some ⟨hb, 0, none⟩)) rfl (by kernel_rfl) (by kernel_rfl) (by kernel_rfl) (fun _ _ _ h => h) (.inl ⟨rfl, fun w' hS => by obtain ⟨s1, s2⟩ := hS; go_simp⟩) hS0 ?_
  refine wpAnyH_take (i := 1) (v := .pointer (some ⟨hb, 0, none⟩)) rfl (by kernel_rfl) (by kernel_rfl) (by kernel_rfl) (fun _ _ _ h => h) (.inl ⟨rfl, fun w' hS => by obtain ⟨s1, s2⟩ := hS; go_simp⟩) hS0 ?_
  refine wpAnyH_take (i := 2) (v := .pointer (some ⟨hb, 3, none⟩)) rfl (by kernel_rfl) (by kernel_rfl) (by kernel_rfl) (fun _ _ _ h => h) (.inl ⟨rfl, fun w' hS => by obtain ⟨s1, s2⟩ := hS; go_simp⟩) hS0 ?_
  refine wpAnyH_take (i := 3) (v := .pointer (some ⟨sb, 0, none⟩)) rfl (by kernel_rfl) (by kernel_rfl) (by kernel_rfl) (fun _ _ _ h => h) (.inl ⟨rfl, fun w' hS => by obtain ⟨s1, s2⟩ := hS; go_simp⟩) hS0 ?_
  refine wpAnyH_take (i := 4) (v := .pointer (some ⟨hb, 0, none⟩)) rfl (by kernel_rfl) (by kernel_rfl) (by kernel_rfl) (fun _ _ _ h => h) (.inl ⟨rfl, fun w' hS => by obtain ⟨s1, s2⟩ := hS; go_simp⟩) hS0 ?_
  refine wpAnyH_take (i := 5) (v := .pointer (some ⟨hb, 0, none⟩)) rfl (by kernel_rfl) (by kernel_rfl) (by kernel_rfl) (fun _ _ _ h => h) (.inl ⟨rfl, fun w' hS => by obtain ⟨s1, s2⟩ := hS; go_simp⟩) hS0 ?_
  refine wpAnyH_take (i := 6) (v := .pointer (some ⟨hb, 0, none⟩)) rfl (by kernel_rfl) (by kernel_rfl) (by kernel_rfl) (fun _ _ _ h => h) (.inl ⟨rfl, fun w' hS => by obtain ⟨s1, s2⟩ := hS; go_simp⟩) hS0 ?_
  refine wpAnyH_take (i := 7) (v := .string name) rfl (by kernel_rfl) (by kernel_rfl) (by kernel_rfl) (fun _ _ _ h => h) (.inl ⟨rfl, fun w' hS => by obtain ⟨s1, s2⟩ := hS; go_simp⟩) hS0 ?_
  refine held_one 8 (by kernel_rfl) (op_calls (f := 68) (args := #[.pointer (some ⟨sb, 0, none⟩), .string name]) rfl rfl (by go_simp) HUN.out ?_)
  rintro e w2 (⟨n, ss, t, b, rfl, hul, hpc, hb2⟩ | ⟨n, ss, vs, vl, vq, B, rfl, hul, hrd, hrow, hpo, hb2⟩)
  · have hb2' : Below w.heap.size w w2 := ⟨hb2.os, hb2.tape, hb2.output, hb2.size, hb2.block⟩
    have X2 := HBX.out.below hb2'
    have hS1 : w2.cell? ⟨hb, 0, none⟩ = some (.string name) ∧ w2.cell? ⟨hb, 3, none⟩ = some (.pointer (some ⟨sb, 0, none⟩)) := ⟨X2.cell 0, X2.cell 3⟩
    have HB2 := hid hb2'
    have HX2 := hid X2
    have HAT := hid (asThing_one name t b w2)
    have HU := hid hul
    clear hul hpc hb2 hb2' X2 hS0
    refine ⟨_, rfl, hS1, ?_⟩
    refine held_one 9 (by kernel_rfl) (op_calls (f := 67) (args := #[partV name t b]) rfl rfl (by go_simp) HAT.out ?_)
    rintro e w3 ⟨rfl, hb3⟩
    have X3 := HX2.out.below hb3
    have hS2 : w3.cell? ⟨hb, 0, none⟩ = some (.string name) ∧ w3.cell? ⟨hb, 3, none⟩ = some (.pointer (some ⟨sb, 0, none⟩)) := ⟨X3.cell 0, X3.cell 3⟩
    have HB3 := hid (HB2.out.trans (hb3.mono HB2.out.size))
    clear hb3 X3 hS1
    refine ⟨_, rfl, hS2, ?_⟩
    refine wpAnyH_take (i := 10) (v := .iface 153 (.agg #[.string name, .string ⟨#[]⟩, .bool false])) rfl (by kernel_rfl) (by kernel_rfl) (by kernel_rfl) (fun _ _ _ h => h) (.inl ⟨rfl, fun w' hS => by obtain ⟨s1, s2⟩ := hS; go_simp⟩) hS2 ?_
    refine wpAnyH_done (by kernel_rfl) ?_ _
    clear hS2
    go_simp
    go_wp2
    go_ret
    exact .inl ⟨n, ss, rfl, HU.out, HB3.out⟩
  · have hb2' : Below w.heap.size w w2 := ⟨hb2.os, hb2.tape, hb2.output, hb2.size, hb2.block⟩
    have X2 := HBX.out.below hb2'
    have hS1 : w2.cell? ⟨hb, 0, none⟩ = some (.string name) ∧ w2.cell? ⟨hb, 3, none⟩ = some (.pointer (some ⟨sb, 0, none⟩)) := ⟨X2.cell 0, X2.cell 3⟩
    have HB2 := hid hb2'
    have HX2 := hid X2
    have HAT := hid (asThing_whole (.agg #[.int .i64 n, vl, .int .i64 wd, vq]) w2)
    have HU := hid hul
    have HRD := hid hrd
    have HRW := hid hrow
    have HPO := hid hpo
    clear hul hrd hrow hpo hb2 hb2' X2 hS0
    refine ⟨_, rfl, hS1, ?_⟩
    refine held_one 9 (by kernel_rfl) (op_calls (f := 67) (args := #[.iface 158 (.agg #[.int .i64 n, vl, .int .i64 wd, vq])]) rfl rfl (by go_simp) HAT.out ?_)
    rintro e w3 ⟨rfl, hb3⟩
    have X3 := HX2.out.below hb3
    have hS2 : w3.cell? ⟨hb, 0, none⟩ = some (.string name) ∧ w3.cell? ⟨hb, 3, none⟩ = some (.pointer (some ⟨sb, 0, none⟩)) := ⟨X3.cell 0, X3.cell 3⟩
    have HB3 := hid (HB2.out.trans (hb3.mono HB2.out.size))
    have HR3 := hid (HRD.out.below hb3)
    have HW3 := hid (part_below HRW.out hb3)
    clear hb3 X3 hS1
    refine ⟨_, rfl, hS2, ?_⟩
    refine wpAnyH_take (i := 10) (v := .iface 158 (.agg #[.int .i64 n, vl, .int .i64 wd, vq])) rfl (by kernel_rfl) (by kernel_rfl) (by kernel_rfl) (fun _ _ _ h => h) (.inl ⟨rfl, fun w' hS => by obtain ⟨s1, s2⟩ := hS; go_simp⟩) hS2 ?_
    refine wpAnyH_done (by kernel_rfl) ?_ _
    clear hS2
    go_simp
    go_wp2
    go_ret
    exact .inr ⟨n, ss, vs, vl, vq, B, rfl, HU.out, HR3.out, HW3.out, HPO.out, HB3.out⟩
end Go.Proofs.YtiipaeieofbdpaaGreatDoor
/- spec.FetchDone: what can be loaded of a fetch. -/
namespace Go.Proofs.YtiipaeieofbdpaaGreatDoor
open Go.RowKit
/-- What FetchDone answers. -/
def DoneV (nm : ByteArray) (now : Int) (wd room : Int) (its : Itms) (ts : List ByteArray) (ps : Prs) (r : Value) : Prop := (¬ ValidF nm now wd room its ts ps ∧ r = .tuple #[.string ⟨#[]⟩, .bool false]) ∨ (ValidF nm now wd room its ts ps ∧ LoadR wd its nm r)
theorem DoneV.uniq {nm : ByteArray} {now wd room : Int} {its : Itms} {ts : List ByteArray} {ps : Prs} {r r' : Value} (h : DoneV nm now wd room its ts ps r) (k : DoneV nm now wd room its ts ps r') : r = r' := by
  rcases h with ⟨hn, rfl⟩ | ⟨hv, h⟩ <;> rcases k with ⟨kn, rfl⟩ | ⟨kv, k⟩
  · rfl
  · exact absurd kv hn
  · exact absurd hv kn
  · exact h.uniq (sums_asc hv.store.each) k
theorem DoneV.form {nm : ByteArray} {now wd room : Int} {its : Itms} {ts : List ByteArray} {ps : Prs} {r : Value} (h : DoneV nm now wd room its ts ps r) : ∃ x b, r = .tuple #[.string x, .bool b] := by
  rcases h with ⟨_, rfl⟩ | ⟨_, h⟩
  · exact ⟨_, _, rfl⟩
  · cases h with
    | none => exact ⟨_, _, rfl⟩
    | lacks => exact ⟨_, _, rfl⟩
    | build n ss ps => exact build_form n ss ps wd
set_option maxRecDepth 100000 in
set_option maxHeartbeats 2000000 in
theorem specFetchDone_any (nm : ByteArray) (now : Int) (full : Bool) (wd room : Int) (vi vp vq : Value) (its : Itms) (ts : List ByteArray) (ps : Prs) (w : World) (hi : RdI w vi its) (hp : Reads w vp ts) (hq : RdP w vq ps) (hli : its.length ≤ 1048576) (hlp : ts.length ≤ 1048576) (hlq : ps.length ≤ 1048576) (hsi : ∀ i, (itx its i).size ≤ 1048576) (hsp : ∀ i, (tv ts i).size ≤ 1048576) (hf : PsFit 1048576 ps) :
    Calls Tryz.prog 7 #[fval nm now full wd room vi vp vq] w fun e w' => ∃ r, e = .returned r ∧ DoneV nm now wd room its ts ps r ∧ Below w.heap.size w w' := by
  have hA := (Below.refl w.heap.size w).alloc (Nat.le_refl _) (.cells (fcells nm now full wd room vi vp vq) 37)
  have HV := hid (specValidFetch_any nm now full wd room vi vp vq its ts ps _ (hi.below hA) (hp.below hA) (hq.below hA) hli hlp hlq hsi hsp hf)
  have HN0 := hid (Blk.new w 37 (fcells nm now full wd room vi vp vq))
  have HI := hid (hi.below hA)
  have HP := hid (hp.below hA)
  have HA := hid hA
  have HLD := hid fun (W : World) h k => l5Load_any wd room vi vp its ts nm W h k hli hsi
  obtain ⟨ai, ci, rfl, _⟩ := hi
  obtain ⟨ap, cp, rfl, _⟩ := hp.form
  obtain ⟨aq, cq, rfl, _⟩ := hq
  clear hp hA hsi hsp hf
  go_enter Tryz.func7, Tryz.ntmps7
  go_wp2_with fail
  refine HV.out.mono ?_
  rintro e w1 ⟨b, rfl, hb, hb1⟩
  have N1 := HN0.out.below hb1
  have B1 := HA.out.trans (hb1.mono (by simp))
  cases b with
  | false =>
    have HNO : Hid (¬ ValidF nm now wd room its ts ps) := fun h => by have := hb.2 h; cases this
    have HB := hid B1
    clear hb hb1 N1 B1
    go_wp2
    go_ret2
    exact ⟨_, rfl, .inl ⟨HNO.out, rfl⟩, HB.out⟩
  | true =>
    have HVAL := hid (hb.1 rfl)
    have HLD1 := hid (HLD.out w1 (HI.out.below hb1) (HP.out.below hb1))
    have HB := hid B1
    have c0 : w1.cell? ⟨w.heap.size, 0, none⟩ = some (.string nm) := N1.cell 0
    have c3 : w1.cell? ⟨w.heap.size, 3, none⟩ = some (.int .i64 wd) := N1.cell 3
    have c4 : w1.cell? ⟨w.heap.size, 4, none⟩ = some (.int .i64 room) := N1.cell 4
    have c5 : w1.cell? ⟨w.heap.size, 5, none⟩ = some (.slice ai its.length ci) := N1.cell 5
    have c6 : w1.cell? ⟨w.heap.size, 6, none⟩ = some (.slice ap ts.length cp) := N1.cell 6
    clear hb hb1 N1 B1
    go_wp2_with fail
    refine HLD1.out.mono ?_
    rintro e w2 ⟨r, rfl, hr, hb2⟩
    have HB2 := hid (HB.out.trans (hb2.mono HB.out.size))
    have HR := hid hr
    obtain ⟨x, b, rfl⟩ : ∃ x b, r = .tuple #[.string x, .bool b] := by
      cases hr with
      | none n ss h => exact ⟨_, _, rfl⟩
      | lacks n ss h i hi ha => exact ⟨_, _, rfl⟩
      | build n ss ps h hl hf => exact build_form n ss ps wd
    clear hb2 hr
    go_wp2
    go_ret2
    exact ⟨_, rfl, .inr ⟨HVAL.out, HR.out⟩, HB2.out⟩
end Go.Proofs.YtiipaeieofbdpaaGreatDoor
/- impl.FetchDone. -/
namespace Go.Proofs.YtiipaeieofbdpaaGreatDoor
open Go.RowKit
theorem ul_sizes {wd : Int} {its : Itms} {name : ByteArray} {n : Int} {ss : List ByteArray} (hul : UL wd its name n ss true) : ss.length ≤ 1048576 ∧ ∀ i, (tv ss i).size ≤ 1048576 := by
  obtain ⟨hfew, _, hssz⟩ := hul.few
  refine ⟨by omega, fun i => ?_⟩
  by_cases hi : i < ss.length
  · have hm : tv ss i ∈ ss := by unfold tv; rw [List.getD_eq_getElem?_getD, List.getElem?_eq_getElem hi]; exact List.getElem_mem hi
    obtain ⟨e, hw⟩ := hssz _ hm
    have : 1 ≤ wd ∧ wd ≤ 8 := of_decide_eq_true hw
    omega
  · unfold tv
    rw [List.getD_eq_getElem?_getD, List.getElem?_eq_none (by omega)]
    show (0 : Nat) ≤ 1048576
    omega
set_option maxRecDepth 100000 in
set_option maxHeartbeats 2000000 in
theorem implFetchDone_any (nm : ByteArray) (now : Int) (full : Bool) (wd room : Int) (vi vp vq : Value) (its : Itms) (ts : List ByteArray) (ps : Prs) (w : World) (hi : RdI w vi its) (hp : Reads w vp ts) (hq : RdP w vq ps) (hnm : nm.size ≤ 1048576) (hli : its.length ≤ 1048576) (hlp : ts.length ≤ 1048576) (hlq : ps.length ≤ 1048576) (hsi : ∀ i, (itx its i).size ≤ 1048576) (hsp : ∀ i, (tv ts i).size ≤ 1048576) (hf : PsFit 1048576 ps) (hE : Errs w) :
    Calls Tryz.prog 9 #[fval nm now full wd room vi vp vq] w fun e w' => ∃ r, e = .returned r ∧ DoneV nm now wd room its ts ps r ∧ Below w.heap.size w w' := by
  have hA := (Below.refl w.heap.size w).alloc (Nat.le_refl _) (.cells (fcells nm now full wd room vi vp vq) 37)
  have HO := hid (openFetch_any nm now full wd room vi vp vq its ts ps _ (hi.below hA) (hp.below hA) (hq.below hA) hli hlp hlq hsi hsp hf)
  have HA := hid hA
  have HE := hid hE
  have HSI := hid hsi
  obtain ⟨ai, ci, rfl, _⟩ := hi
  obtain ⟨ap, cp, rfl, _⟩ := hp.form
  obtain ⟨aq, cq, rfl, _⟩ := hq
  clear hp hA hsi hsp hf hE
  go_enter Tryz.func9, Tryz.ntmps9
  go_wp2_with fail
  refine HO.out.mono ?_
  rintro e w1 (⟨hn, rfl, hb1⟩ | ⟨hv, C1, C2, hb, pm, sb, mb, vc, qs, pbs, rfl, _, hH, hb1⟩)
  · have HN := hid hn
    have HB := hid (HA.out.trans (hb1.mono (by simp)))
    clear hn hb1
    go_wp2
    go_ret2
    exact ⟨_, rfl, .inl ⟨HN.out, rfl⟩, HB.out⟩
  · have B1 := HA.out.trans (hb1.mono (by simp))
    have HTH := hid (huntThing_any hb sb mb vc wd room _ now full _ _ _ its nm w1 hH.box hH.shelf.box hH.shelf.map (sums_asc hv.store.each) hnm HSI.out (HE.out.below B1))
    have HB1 := hid B1
    have HV := hid hv
    clear hv hH hb1 B1
    go_wp2_with fail
    refine HTH.out.mono ?_
    rintro e w2 (⟨n, ss, rfl, hul, hb2⟩ | ⟨n, ss, vs, vl, vq, B, rfl, hul, hrd, hrow, hpo, hb2⟩)
    · have HB2 := hid (HB1.out.trans (hb2.mono HB1.out.size))
      have HLV : Hid (DoneV nm now wd room its ts ps (.tuple #[.string ⟨#[]⟩, .bool false])) := .inr ⟨HV.out, .none n ss hul⟩
      have hin := fun W => invokeOne (.agg #[.string nm, .string ⟨#[]⟩, .bool false]) W
      have HON := hid (oneBuilt_any nm ⟨#[]⟩ false w2)
      clear hul hb2
      go_wp2_with fail
      refine HON.out.mono ?_
      rintro e w4 ⟨rfl, hb4⟩
      have HB4 := hid (HB2.out.trans (hb4.mono HB2.out.size))
      clear hb4 hin
      go_wp2
      go_ret2
      exact ⟨_, rfl, HLV.out, HB4.out⟩
    · have HB2 := hid (HB1.out.trans (hb2.mono HB1.out.size))
      obtain ⟨hfew, hss⟩ := ul_sizes hul
      have HLV : Hid (∀ r, BuiltR wd its n ss r → DoneV nm now wd room its ts ps r) := fun r h => .inr ⟨HV.out, h.load hul⟩
      have hin := fun W => invokeWhole (.agg #[.int .i64 n, vl, .int .i64 wd, vq]) W
      have HON := hid (wholeBuilt_any wd its n vl vq ss vs B w2 hrd hrow hpo hfew hss HSI.out)
      clear hul hrd hrow hpo hb2 hss
      go_wp2_with fail
      refine HON.out.mono ?_
      rintro e w4 ⟨r, rfl, hr, hb4⟩
      obtain ⟨xr, br, hrf⟩ : ∃ x b, r = .tuple #[.string x, .bool b] := by
        rcases hr with ⟨_, _, _, rfl⟩ | ⟨ps, _, _, rfl⟩
        · exact ⟨_, _, rfl⟩
        · exact build_form n ss ps wd
      subst hrf
      have HB4 := hid (HB2.out.trans (hb4.mono HB2.out.size))
      have HLR := hid (HLV.out _ hr)
      clear hb4 hr hin
      go_wp2
      go_ret2
      exact ⟨_, rfl, HLR.out, HB4.out⟩
end Go.Proofs.YtiipaeieofbdpaaGreatDoor
