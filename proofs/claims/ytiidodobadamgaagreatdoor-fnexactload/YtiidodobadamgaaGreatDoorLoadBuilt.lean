/- (wholeList).built and impl.Load. -/
import Derived.Test.YtiidodobadamgaaGreatDoorLoadUnder
namespace Go.Proofs.YtiidodobadamgaaGreatDoor
open Go.RowKit
theorem invokeOne (x : Value) (W : World) : (callMethod (.iface 77 x) "loop.example/kilnpass/impl.built" #[]).run Tryz.prog W = .ok (.enter 140 #[x]) W := by kernel_rfl
theorem invokeWhole (x : Value) (W : World) : (callMethod (.iface 82 x) "loop.example/kilnpass/impl.built" #[]).run Tryz.prog W = .ok (.enter 142 #[x]) W := by kernel_rfl
/-- What a list with its pieces is built to. -/
def BuiltR (wd : Int) (its : Itms) (n : Int) (ss : List ByteArray) (r : Value) : Prop :=
  (∃ i, i < ss.length ∧ Absent wd its (tv ss i) ∧ r = .tuple #[.string ⟨#[]⟩, .bool false]) ∨ (∃ ps : List ByteArray, ps.length = ss.length ∧ (∀ i, i < ss.length → Found wd its (tv ss i) (tv ps i)) ∧ r = buildR n ss ps wd)
theorem BuiltR.load {wd : Int} {its : Itms} {name : ByteArray} {n : Int} {ss : List ByteArray} {r : Value} (hul : UL wd its name n ss true) (h : BuiltR wd its n ss r) : LoadR wd its name r := by
  rcases h with ⟨i, hi, ha, rfl⟩ | ⟨ps, hl, hf, rfl⟩
  · exact .lacks n ss hul i hi ha
  · exact .build n ss ps hul hl hf
set_option maxRecDepth 100000 in
set_option maxHeartbeats 4000000 in
theorem wholeBuilt_any (wd : Int) (its : Itms) (n : Int) (vl vp : Value) (ss : List ByteArray) (vs : List Value) (B : Nat) (w : World) (hl : Reads w vl ss) (hrow : w.ownsRow B 47 1 vp ss.length vs) (hpo : PartsOf wd its ss ss.length vs) (hfew : ss.length ≤ 1048576) (hss : ∀ i, (tv ss i).size ≤ 1048576) (hsi : ∀ i, (itx its i).size ≤ 1048576) :
    Calls Tryz.prog 142 #[.agg #[.int .i64 n, vl, .int .i64 wd, vp]] w fun e w' => ∃ r, e = .returned r ∧ BuiltR wd its n ss r ∧ Below w.heap.size w w' := by
  obtain ⟨i0, hi0, hz0, hz1, hz2⟩ := info_parts Tryz.info9
  obtain ⟨al, cl, rfl, _⟩ := hl.form
  obtain ⟨ap, cp, rfl⟩ := parts_form hrow
  have hA := (Below.refl w.heap.size w).alloc (Nat.le_refl _) (.cells #[.int .i64 n, .slice al ss.length cl, .int .i64 wd, .slice ap ss.length cp] 82)
  have HN0 := hid (Blk.new w 82 #[.int .i64 n, .slice al ss.length cl, .int .i64 wd, .slice ap ss.length cp])
  have HL := hid (hl.below hA)
  have HR := hid (part_below hrow hA)
  have HPO := hid hpo
  have HSS := hid hss
  have HSI := hid hsi
  have HA := hid hA
  clear hl hrow hpo hss hsi hA
  go_enter Tryz.func142, Tryz.ntmps142
  go_wp2_with fail
  go_loopw [4, 12] (fun v i' wr => ∃ (k : Nat) (ps : List ByteArray), k ≤ ss.length ∧ i' = .int .i64 k ∧ ps.length = k ∧ (∀ j, j < k → Found wd its (tv ss j) (tv ps j)) ∧ wr.ownsRow (w.heap.size + 1) 9 1 v k (ps.map Value.string) ∧ Below (w.heap.size + 1) (w.alloc (.cells #[.int .i64 n, .slice al ss.length cl, .int .i64 wd, .slice ap ss.length cp] 82)) wr) (fun _ i' _ => ss.length - (intOf i').toNat)
  case atStart => exact ⟨0, [], Nat.zero_le _, rfl, rfl, fun j hj => absurd hj (by omega), ⟨rfl, .inl ⟨rfl, rfl⟩⟩, Below.refl _ _⟩
  case round =>
    obtain ⟨k, ps, hk, rfl, hpl, hfd, hown, hbl⟩ := hrel
    have hbl' : Below (w.alloc (.cells #[.int .i64 n, .slice al ss.length cl, .int .i64 wd, .slice ap ss.length cp] 82)).heap.size (w.alloc (.cells #[.int .i64 n, .slice al ss.length cl, .int .i64 wd, .slice ap ss.length cp] 82)) wr := by rw [World.size_alloc]; exact hbl
    have N1 := HN0.out.below hbl'
    have HBR := hid (HA.out.trans (hbl.mono (Nat.le_succ _)))
    have hsr := hbl.size
    rw [World.size_alloc] at hsr
    have HFD := hid hfd
    have HBL := hid hbl
    have HOW := hid hown
    obtain ⟨av, cv, rfl, _⟩ := row_form hown
    by_cases hlt : k < ss.length
    case neg =>
      obtain rfl : k = ss.length := by omega
      have x0 : wr.cell? ⟨w.heap.size, 0, none⟩ = some (.int .i64 n) := N1.cell 0
      have x1 : wr.cell? ⟨w.heap.size, 1, none⟩ = some (.slice al ss.length cl) := N1.cell 1
      have x2 : wr.cell? ⟨w.heap.size, 2, none⟩ = some (.int .i64 wd) := N1.cell 2
      have hr2 : Reads wr (.slice av ss.length cv) ps := Reads.of_row (base := w.heap.size + 1) (by rw [hpl]; exact hown)
      have hpz : ∀ i, (tv ps i).size ≤ 1048576 := fun i => by
        by_cases hi : i < ps.length
        · obtain ⟨j, _, _, e⟩ := HFD.out i (by omega)
          rw [e]
          exact HSI.out j
        · unfold tv
          rw [List.getD_eq_getElem?_getD, List.getElem?_eq_none (by omega)]
          show (0 : Nat) ≤ 1048576
          omega
      have HBD := hid (implBuild_any n (.slice al ss.length cl) (.slice av ss.length cv) ss ps wd wr (HL.out.below hbl') hr2 (by unfold maxLen; omega) (by unfold maxLen; omega) (fun i => by have := HSS.out i; unfold tv at this; unfold maxLen; omega) (fun i => by have := hpz i; unfold tv at this; unfold maxLen; omega))
      have HLR : Hid (BuiltR wd its n ss (buildR n ss ps wd)) := .inr ⟨ps, hpl, HFD.out, rfl⟩
      obtain ⟨xb, bb, hform⟩ := build_form n ss ps wd
      rw [hform] at HBD HLR
      clear hfd hown hbl hbl' N1 hr2 hpz hform
      go_wp2_with fail
      refine HBD.out.mono ?_
      rintro e w2 ⟨rfl, hb2⟩
      have HB2 := hid (HBR.out.trans (hb2.mono HBR.out.size))
      clear hb2
      go_wp2
      go_ret2
      exact ⟨_, rfl, HLR.out, HB2.out⟩
    obtain ⟨t, b, hvk, hpc⟩ := HPO.out.2 k hlt
    have HRR := hid (part_below HR.out hbl')
    obtain ⟨g, e', hgl, hcell⟩ : ∃ g, ap = some ⟨g, 0, none⟩ ∧ g < wr.heap.size ∧ wr.cell? ⟨g, k, none⟩ = some (partV (tv ss k) t b) := by
      have hl2 := HRR.out.lt
      rcases id HRR.out with ⟨_, ⟨e1, e2⟩ | ⟨g, cap, cur, e1, _⟩⟩
      · omega
      · have ea : ap = some ⟨g, 0, none⟩ := (Value.slice.inj e1).1
        subst ea
        have hc := HRR.out.cellAt k (by omega)
        exact ⟨g, rfl, (hl2 g rfl).2, by rw [hc, hvk]⟩
    subst e'
    have HABS : Hid (b = false → BuiltR wd its n ss (.tuple #[.string ⟨#[]⟩, .bool false])) := fun h => .inl ⟨k, hlt, by
      rcases hpc with ⟨h1, _⟩ | ⟨_, h1, _⟩
      · rw [h1] at h; cases h
      · exact h1, rfl⟩
    have HNX : Hid (b = true → ∀ j, j < k + 1 → Found wd its (tv ss j) (tv (ps ++ [t]) j)) := fun h j hj => by
      have hf : Found wd its (tv ss k) t := by
        rcases hpc with ⟨_, h1⟩ | ⟨h1, _⟩
        · exact h1
        · rw [h1] at h; cases h
      rcases Nat.lt_or_eq_of_le (Nat.le_of_lt_succ hj) with h1 | h1
      · have e : tv (ps ++ [t]) j = tv ps j := by unfold tv; rw [List.getD_eq_getElem?_getD, List.getElem?_append_left (by omega), ← List.getD_eq_getElem?_getD]
        rw [e]
        exact HFD.out j h1
      · subst h1
        have e : tv (ps ++ [t]) j = t := by unfold tv; rw [← hpl]; simp
        rw [e]
        exact hf
    generalize tv ss k = x at hcell
    have HON := hid (oneBuilt_any x t b wr)
    have hin := fun W => invokeOne (.agg #[.string x, .string t, .bool b]) W
    clear hfd hown hbl hbl' N1 hvk hpc hgl
    go_wp2_with fail
    refine HON.out.mono ?_
    rintro e w3 ⟨rfl, hb3⟩
    have hrow3 := part_below HOW.out hb3
    have D3 := HBL.out.trans (hb3.mono hsr)
    have HB3 := hid (HBR.out.trans (hb3.mono HBR.out.size))
    have hs3 := hb3.size
    have HD3 := hid D3
    clear hb3 D3 hcell hin
    cases b with
    | false =>
      have HF := hid (HABS.out rfl)
      clear hrow3
      go_wp2
      go_ret2
      exact ⟨_, rfl, HF.out, HB3.out⟩
    | true =>
      have HFN := hid (HNX.out rfl)
      go_wp2_with (at_builtin; refine wpList_append_own _ rfl _ _ 23 rfl (w.heap.size + 1) 9 i0 (.string ⟨#[]⟩) 1 16 Tryz.underlying23 hi0 hz0 hz1 hz2 rfl (by decide) _ _ _ rfl (hrow3.alloc _) ⟨_, 0, none⟩ 1 1 [.string t] rfl rfl (cell_one_new _ _ _) (by simp [Value.oneCell']) (by unfold maxLen; omega) (by omega) (by simp; omega) ?_; intro v' w6 hown' hgrow _; obtain ⟨a6, c6, rfl, _⟩ := row_form hown')
      have hD6 := (HD3.out.alloc (by omega) (.cells #[.string t] 9)).grown hgrow (by simp; omega) (fun g e => (hrow3.lt g e).1)
      exact ⟨⟨k + 1, ps ++ [t], by omega, by go_num, by simp [hpl], HFN.out, by simpa using hown', hD6⟩, by simp [intOf]; omega⟩
set_option maxRecDepth 100000 in
set_option maxHeartbeats 2000000 in
theorem implLoad_any (wd room : Int) (vi vp : Value) (its : Itms) (ts : List ByteArray) (name : ByteArray) (w : World) (hi : RdI w vi its) (hp : Reads w vp ts) (hli : its.length ≤ 1048576) (hlp : ts.length ≤ 1048576) (hsi : ∀ i, (itx its i).size ≤ 1048576) (hsp : ∀ i, (tv ts i).size ≤ 1048576) (hns : name.size ≤ 1048576) (hE : Errs w) :
    Calls Tryz.prog 8 #[.agg #[.int .i64 wd, .int .i64 room, vi, vp], .string name] w fun e w' => ∃ r, e = .returned r ∧ LoadV wd room its ts name r ∧ Below w.heap.size w w' := by
  obtain ⟨ai, ci, rfl, _⟩ := id hi
  obtain ⟨ap, cp, rfl, _⟩ := hp.form
  have hA := (Below.refl w.heap.size w).alloc (Nat.le_refl _) (.cells #[.int .i64 wd, .int .i64 room, .slice ai its.length ci, .slice ap ts.length cp] 31)
  have HO := hid (openStore_any wd room (.slice ai its.length ci) (.slice ap ts.length cp) its ts _ (hi.below hA) (hp.below hA) hli hlp hsi hsp)
  have HA := hid hA
  have HE := hid hE
  have HSI := hid hsi
  clear hi hp hA hsi hsp hE
  go_enter Tryz.func8, Tryz.ntmps8
  go_wp2_with fail
  refine HO.out.mono ?_
  rintro e w1 (⟨hn, rfl, hb1⟩ | ⟨hv, sb, mb, vc, rfl, hsh, hb1⟩)
  · have HB := hid (HA.out.trans (hb1.mono (by simp)))
    have HNV := hid hn
    clear hn hb1
    go_wp2
    go_ret2
    exact ⟨_, rfl, .inl ⟨HNV.out, rfl⟩, HB.out⟩
  · have B1 := HA.out.trans (hb1.mono (by simp))
    have HUN := hid (under_any sb mb vc wd room _ its name w1 hsh.box hsh.map (sums_asc hv.each) hns HSI.out (HE.out.below B1))
    have HB1 := hid B1
    have HV := hid hv
    clear hv hsh hb1 B1
    go_wp2_with fail
    refine HUN.out.mono ?_
    rintro e w2 (⟨n, ss, t, b, rfl, hul, hpc, hb2⟩ | ⟨n, ss, vs, vl, vq, B, rfl, hul, hrd, hrow, hpo, hb2⟩)
    · have HB2 := hid (HB1.out.trans (hb2.mono HB1.out.size))
      have HLV : Hid (LoadV wd room its ts name (.tuple #[.string ⟨#[]⟩, .bool false])) := .inr ⟨HV.out, .none n ss hul⟩
      have HAT := hid (asThing_one name t b w2)
      have hin := fun W => invokeOne (.agg #[.string name, .string ⟨#[]⟩, .bool false]) W
      clear hul hpc hb2
      go_wp2_with fail
      refine HAT.out.mono ?_
      rintro e w3 ⟨rfl, hb3⟩
      have HB3 := hid (HB2.out.trans (hb3.mono HB2.out.size))
      have HON := hid (oneBuilt_any name ⟨#[]⟩ false w3)
      clear hb3
      go_wp2_with fail
      refine HON.out.mono ?_
      rintro e w4 ⟨rfl, hb4⟩
      have HB4 := hid (HB3.out.trans (hb4.mono HB3.out.size))
      clear hb4
      go_wp2
      go_ret2
      exact ⟨_, rfl, HLV.out, HB4.out⟩
    · have HB2 := hid (HB1.out.trans (hb2.mono HB1.out.size))
      obtain ⟨hfew, _, hssz⟩ := hul.few
      have hss : ∀ i, (tv ss i).size ≤ 1048576 := fun i => by
        by_cases hi : i < ss.length
        · have hm : tv ss i ∈ ss := by unfold tv; rw [List.getD_eq_getElem?_getD, List.getElem?_eq_getElem hi]; exact List.getElem_mem hi
          obtain ⟨e, hw⟩ := hssz _ hm
          have : 1 ≤ wd ∧ wd ≤ 8 := of_decide_eq_true hw
          omega
        · unfold tv
          rw [List.getD_eq_getElem?_getD, List.getElem?_eq_none (by omega)]
          show (0 : Nat) ≤ 1048576
          omega
      have HLV : Hid (∀ r, BuiltR wd its n ss r → LoadV wd room its ts name r) := fun r h => .inr ⟨HV.out, h.load hul⟩
      have HAT := hid (asThing_whole (.agg #[.int .i64 n, vl, .int .i64 wd, vq]) w2)
      have hin := fun W => invokeWhole (.agg #[.int .i64 n, vl, .int .i64 wd, vq]) W
      have HWB := hid fun (W : World) (h1 : Reads W vl ss) (h2 : W.ownsRow B 47 1 vq ss.length vs) => wholeBuilt_any wd its n vl vq ss vs B W h1 h2 hpo (by omega) hss HSI.out
      have HRD := hid hrd
      have HRW := hid hrow
      clear hul hrd hrow hpo hb2 hss hssz
      go_wp2_with fail
      refine HAT.out.mono ?_
      rintro e w3 ⟨rfl, hb3⟩
      have HB3 := hid (HB2.out.trans (hb3.mono HB2.out.size))
      have HON := hid (HWB.out w3 (HRD.out.below hb3) (part_below HRW.out hb3))
      clear hb3
      go_wp2_with fail
      refine HON.out.mono ?_
      rintro e w4 ⟨r, rfl, hr, hb4⟩
      obtain ⟨xr, br, hrf⟩ : ∃ x b, r = .tuple #[.string x, .bool b] := by
        rcases hr with ⟨_, _, _, rfl⟩ | ⟨ps, _, _, rfl⟩
        · exact ⟨_, _, rfl⟩
        · exact build_form n ss ps wd
      subst hrf
      have HB4 := hid (HB3.out.trans (hb4.mono HB3.out.size))
      have HLR := hid (HLV.out _ hr)
      clear hb4 hr
      go_wp2
      go_ret2
      exact ⟨_, rfl, HLR.out, HB4.out⟩
end Go.Proofs.YtiidodobadamgaaGreatDoor
