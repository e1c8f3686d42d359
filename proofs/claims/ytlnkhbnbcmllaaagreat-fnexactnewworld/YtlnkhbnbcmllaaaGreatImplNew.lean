/- impl.NewWorld. -/
import Derived.Test.YtlnkhbnbcmllaaaGreatSceneWorld
namespace Go.Proofs.YtlnkhbnbcmllaaaGreat
open Go.RowKit
/-- What impl.NewWorld answers: a world in memory of its own. -/
def NewOwn (x : Wd) (w : World) (e : Ending) (w' : World) : Prop := ∃ y vi vp vq vu vs qs os, e = .returned (wval y.nm y.now y.full y.wd y.room vi vp vq vu vs (.slice none 0 0) y.wst) ∧ (ValidW x ∧ y = x ∨ ¬ ValidW x ∧ y = wd0) ∧ qs.map Prod.fst = y.ps ∧ os.map Prod.fst = y.ss ∧ WorldOwn w' w.heap.size vi vp vq vu vs y.its y.ts qs y.bs os ∧ Below w.heap.size w w'
theorem NewOwn.no {x : Wd} {w w' : World} (h : ¬ ValidW x) (hb : Below w.heap.size w w') : NewOwn x w (.returned (.agg #[.string ⟨#[]⟩, .int .i64 0, .bool false, .int .i64 0, .int .i64 0, .slice none 0 0, .slice none 0 0, .slice none 0 0, .slice none 0 0, .slice none 0 0, .slice none 0 0, .int .i64 0])) w' := ⟨wd0, _, _, _, _, _, [], [], rfl, .inr ⟨h, rfl⟩, rfl, rfl, WorldOwn.none _ _, hb⟩
theorem NewOwn.yes {x : Wd} {w w' : World} {vi vp vq vu vs : Value} {qs : PV} {os : SV} (h : ValidW x) (h1 : qs.map Prod.fst = x.ps) (h2 : os.map Prod.fst = x.ss) (ho : WorldOwn w' w.heap.size vi vp vq vu vs x.its x.ts qs x.bs os) (hb : Below w.heap.size w w') : NewOwn x w (.returned (wval x.nm x.now x.full x.wd x.room vi vp vq vu vs (.slice none 0 0) x.wst)) w' := ⟨x, _, _, _, _, _, qs, os, rfl, .inl ⟨h, rfl⟩, h1, h2, ho, hb⟩
theorem WorldOwn.besides {W W' : World} {B b : Nat} {cs : Array Value} {vi vp vq vu vs : Value} {its : Itms} {ts : List ByteArray} {qs : PV} {bs : List Bool} {ss : SV} (h : WorldOwn W B vi vp vq vu vs its ts qs bs ss) (hb : Blk W b 42 cs) (hg : W.grownBy W' (some b)) : WorldOwn W' B vi vp vq vu vs its ts qs bs ss :=
  ⟨fetch_besides h.fetch hb (by decide) (by decide) (by decide) hg, row_besides h.bools hb (by decide) hg, h.stores.besides hb (by decide) (by decide) (by decide) hg, h.apart⟩
set_option maxRecDepth 100000 in
set_option maxHeartbeats 16000000 in
theorem implNewWorld_any (nm : ByteArray) (now : Int) (full : Bool) (wd room : Int) (vi vp vq vs : Value) (its : Itms) (ts : List ByteArray) (ps : Prs) (ss : Srs) (w : World) (hi : RdI w vi its) (hp : Reads w vp ts) (hq : RdP w vq ps) (hs : RdS w vs ss) (hnm : nm.size ≤ 1048576) (hli : its.length ≤ 1048576) (hlp : ts.length ≤ 1048576) (hlq : ps.length ≤ 1048576) (hsi : ∀ i, (itx its i).size ≤ 1048576) (hsp : ∀ i, (tv ts i).size ≤ 1048576) (hpf : PsFit 1048576 ps) (hls : ss.length ≤ 1048576) (hfs : SsFit 1048576 ss) :
    Calls Tryz.prog 9 #[fval nm now full wd room vi vp vq, vs] w fun e w' => NewOwn (newW nm now full wd room its ts ps ss) w e w' := by
  obtain ⟨i0, hi0, hz0, hz1, hz2⟩ := info_parts Tryz.infoBool2
  obtain ⟨ai, ci, rfl, _⟩ := id hi
  obtain ⟨ap, cp, rfl, _⟩ := hp.form
  obtain ⟨aq, cq, rfl, _⟩ := id hq
  obtain ⟨ax, cx, rfl, _⟩ := id hs
  obtain ⟨M, hM⟩ : ∃ M, M = madeCells (Value.bool false).cells (((ps.length : Nat) : Int).toNat * i0.size) := ⟨_, rfl⟩
  have hMs : M.size = ps.length := by rw [hM, size_madeCells, hz1]; simp
  have hmk : ∀ W : World, (Instr.makeSlice 38 (.int .i64 (ps.length : Int)) (.int .i64 (ps.length : Int))).run Tryz.prog W = .ok (.slice (some ⟨W.heap.size, 0, none⟩) ps.length ps.length) (W.alloc (.cells M 4)) := fun W => by
    have h := run_make (P := Tryz.prog) W 38 4 i0 (.bool false) Tryz.underlying38 hi0 hz0 .i64 .i64 (ps.length : Int) (ps.length : Int) (by omega) (by omega) (by rw [hz2]; omega) (by omega)
    rw [← hM] at h
    simpa using h
  have hA := ((Below.refl w.heap.size w).alloc (Nat.le_refl _) (.cells #[.string nm, .int .i64 now, .bool full, .int .i64 wd, .int .i64 room, .slice ai its.length ci, .slice ap ts.length cp, .slice aq ps.length cq] 37)).alloc (by simp) (.cells #[.string ⟨#[]⟩, .int .i64 0, .bool false, .int .i64 0, .int .i64 0, .slice none 0 0, .slice none 0 0, .slice none 0 0, .slice none 0 0, .slice none 0 0, .slice none 0 0, .int .i64 0] 42)
  have hN0 := (Blk.new w 37 #[.string nm, .int .i64 now, .bool full, .int .i64 wd, .int .i64 room, .slice ai its.length ci, .slice ap ts.length cp, .slice aq ps.length cq]).alloc (.cells #[.string ⟨#[]⟩, .int .i64 0, .bool false, .int .i64 0, .int .i64 0, .slice none 0 0, .slice none 0 0, .slice none 0 0, .slice none 0 0, .slice none 0 0, .slice none 0 0, .int .i64 0] 42)
  have hN7 := Blk.new (w.alloc (.cells #[.string nm, .int .i64 now, .bool full, .int .i64 wd, .int .i64 room, .slice ai its.length ci, .slice ap ts.length cp, .slice aq ps.length cq] 37)) 42 #[.string ⟨#[]⟩, .int .i64 0, .bool false, .int .i64 0, .int .i64 0, .slice none 0 0, .slice none 0 0, .slice none 0 0, .slice none 0 0, .slice none 0 0, .slice none 0 0, .int .i64 0]
  rw [World.size_alloc] at hN7
  have hs0 : ((w.alloc (.cells #[.string nm, .int .i64 now, .bool full, .int .i64 wd, .int .i64 room, .slice ai its.length ci, .slice ap ts.length cp, .slice aq ps.length cq] 37)).alloc (.cells #[.string ⟨#[]⟩, .int .i64 0, .bool false, .int .i64 0, .int .i64 0, .slice none 0 0, .slice none 0 0, .slice none 0 0, .slice none 0 0, .slice none 0 0, .slice none 0 0, .int .i64 0] 42)).heap.size = w.heap.size + 2 := by rw [World.size_alloc, World.size_alloc]
  obtain ⟨w1, hw1⟩ : ∃ x, x = (w.alloc (.cells #[.string nm, .int .i64 now, .bool full, .int .i64 wd, .int .i64 room, .slice ai its.length ci, .slice ap ts.length cp, .slice aq ps.length cq] 37)).alloc (.cells #[.string ⟨#[]⟩, .int .i64 0, .bool false, .int .i64 0, .int .i64 0, .slice none 0 0, .slice none 0 0, .slice none 0 0, .slice none 0 0, .slice none 0 0, .slice none 0 0, .int .i64 0] 42) := ⟨_, rfl⟩
  rw [← hw1] at hA hN0 hN7 hs0
  have hs0a : w.heap.size + 2 ≤ w1.heap.size := by omega
  have x7 : w1.cell? ⟨w.heap.size, 7, none⟩ = some (.slice aq ps.length cq) := hN0.cell 7
  have HM1 := hid hMs
  have HNU := hid (Blk.new w1 4 M)
  have HA := hid hA
  have HN0 := hid hN0
  have HN7 := hid hN7
  have HRI := hid hi
  have HRP := hid hp
  have HRQ := hid hq
  have HRS := hid hs
  have HWF : Hid (WFits 1048576 (newW nm now full wd room its ts ps ss)) := hid ⟨hnm, hli, hsi, hlp, hsp, hlq, hpf, by simp; exact hlq, hls, hfs, by simp, fun i h => absurd h (by simp)⟩
  have HSI := hid hsi
  have HSP := hid hsp
  have HPF := hid hpf
  have HFS := hid hfs
  clear hi hp hq hs hM hMs hA hN0 hN7 hs0 hsi hsp hpf hfs
  go_enter Tryz.func9, Tryz.ntmps9
  go_upto_region 1 with fail
  rw [← hw1]
  clear hw1
  go_wp2
  clear x7 hmk
  go_loopw [15] (fun i' wr => ∃ (i : Nat) (cs : Array Value), i ≤ ps.length ∧ i' = .int .i64 i ∧ Blk wr w1.heap.size 4 cs ∧ Hid (cs.size = ps.length) ∧ Hid (∀ j, j < i → cs[j]? = some (.bool true)) ∧ Below w1.heap.size w1 wr) (fun i' _ => ps.length - (intOf i').toNat)
  case atStart => exact ⟨0, M, Nat.zero_le _, rfl, HNU.out, HM1.out, by intro j hj; omega, (Below.refl _ _).alloc (Nat.le_refl _) _⟩
  case round =>
    obtain ⟨i, cs, hil, rfl, hr, hcs, hdone, hb⟩ := hrel
    by_cases hlt : i < ps.length
    · obtain ⟨z, hz⟩ : ∃ z, cs[i]? = some z := ⟨_, Array.getElem?_eq_getElem (by have := hcs.out; omega)⟩
      have HD : Hid (∀ j, j < i + 1 → (cs.setIfInBounds i (.bool true))[j]? = some (.bool true)) := fun j hj => by
        rw [Array.getElem?_setIfInBounds]
        by_cases e : i = j
        · subst e
          rw [if_pos rfl, if_pos (by have := hcs.out; omega)]
        · rw [if_neg e]
          exact hdone.out j (by omega)
      have e1 := (hr.cell i).trans hz
      have e2 := hr.fz i
      have R := hid (hr.set i (.bool true))
      have HB := hid (hb.setCell (p := ⟨w1.heap.size, i, none⟩) (Nat.le_refl _) (.bool true))
      clear hr hb hz hdone
      go_wp2
      exact ⟨⟨i + 1, cs.setIfInBounds i (.bool true), by omega, by go_num, R.out, by show _ = _; rw [Array.size_setIfInBounds]; exact hcs.out, HD.out, HB.out⟩, by simp [intOf]; omega⟩
    obtain rfl : i = ps.length := by omega
    have hBW := HA.out.trans (hb.mono (by omega))
    have N0 := HN0.out.below hb
    have HN7r := hid (HN7.out.below hb)
    have HRU : Hid (RdB wr (.slice (some ⟨w1.heap.size, 0, none⟩) ps.length ps.length) (List.replicate ps.length true)) := hid ⟨some ⟨w1.heap.size, 0, none⟩, ps.length, by rw [List.length_replicate], fun j hj => ⟨w1.heap.size, 0, rfl, hr.lt, by rw [Nat.zero_add, hr.cell]; rw [List.length_replicate] at hj; rw [hdone.out j hj]; simp [hj]⟩⟩
    have HOW := hid (openScene_any (newW nm now full wd room its ts ps ss) (.slice ai its.length ci) (.slice ap ts.length cp) (.slice aq ps.length cq) (.slice (some ⟨w1.heap.size, 0, none⟩) ps.length ps.length) (.slice ax ss.length cx) (.slice none 0 0) wr ⟨HRI.out.below hBW, HRP.out.below hBW, HRQ.out.below hBW, HRU.out, HRS.out.below hBW, ⟨_, _, rfl, fun i h => absurd h (by simp)⟩⟩ HWF.out)
    have HBW := hid hBW
    obtain ⟨x0, x1, x2, x3, x4, x5, x6, x7⟩ : wr.cell? ⟨w.heap.size, 0, none⟩ = some (.string nm) ∧ wr.cell? ⟨w.heap.size, 1, none⟩ = some (.int .i64 now) ∧ wr.cell? ⟨w.heap.size, 2, none⟩ = some (.bool full) ∧ wr.cell? ⟨w.heap.size, 3, none⟩ = some (.int .i64 wd) ∧ wr.cell? ⟨w.heap.size, 4, none⟩ = some (.int .i64 room) ∧ wr.cell? ⟨w.heap.size, 5, none⟩ = some (.slice ai its.length ci) ∧ wr.cell? ⟨w.heap.size, 6, none⟩ = some (.slice ap ts.length cp) ∧ wr.cell? ⟨w.heap.size, 7, none⟩ = some (.slice aq ps.length cq) := ⟨N0.cell 0, N0.cell 1, N0.cell 2, N0.cell 3, N0.cell 4, N0.cell 5, N0.cell 6, N0.cell 7⟩
    have hzr := hBW.size
    clear hr hb hcs hdone hBW N0 HRU HNU HM1
    go_wp2_with fail
    refine HOW.out.mono ?_
    rintro e w2 (⟨hno, ⟨pp, rfl⟩, hb2⟩ | ⟨hyes, cb, rfl, hsc, hb2⟩)
    · have HNO := hid hno
      have N7 := HN7r.out.below hb2
      have B2 := HBW.out.trans (hb2.mono hzr)
      clear hno hb2 x0 x1 x2 x3 x4 x5 x6 x7 HOW
      go_upto_region 9 with fail
      have s12 := N7.store12 (.string ⟨#[]⟩) (.int .i64 0) (.bool false) (.int .i64 0) (.int .i64 0) (.slice none 0 0) (.slice none 0 0) (.slice none 0 0) (.slice none 0 0) (.slice none 0 0) (.slice none 0 0) (.int .i64 0)
      have ZZ := hid (N7.set12 (.string ⟨#[]⟩) (.int .i64 0) (.bool false) (.int .i64 0) (.int .i64 0) (.slice none 0 0) (.slice none 0 0) (.slice none 0 0) (.slice none 0 0) (.slice none 0 0) (.slice none 0 0) (.int .i64 0))
      have BB := hid (below_set12 B2 (b := w.heap.size + 1) (by omega) (Nat.le_refl _) (.string ⟨#[]⟩) (.int .i64 0) (.bool false) (.int .i64 0) (.int .i64 0) (.slice none 0 0) (.slice none 0 0) (.slice none 0 0) (.slice none 0 0) (.slice none 0 0) (.slice none 0 0) (.int .i64 0))
      obtain ⟨y0, k0, y1, k1, y2, k2, y3, k3, y4, k4, y5, k5, y6, k6, y7, k7, y8, k8, y9, k9, y10, k10, y11, k11⟩ := s12
      clear N7 B2
      go_wp2
      rw [set12_def]
      exact bodyPost_ret (v := .agg #[.string ⟨#[]⟩, .int .i64 0, .bool false, .int .i64 0, .int .i64 0, .slice none 0 0, .slice none 0 0, .slice none 0 0, .slice none 0 0, .slice none 0 0, .slice none 0 0, .int .i64 0]) (by simp [results, Tryz.results9, go_sem, ZZ.out.cell]) rfl (NewOwn.no HNO.out BB.out)
    · have HYES := hid hyes
      have HSW := hid (sceneWorld_any cb nm now full wd room its ts ps (List.replicate ps.length true) ss 0 w2 hsc hyes.fetch (fun i hi => (hyes.each i hi).1) hnm HSI.out HSP.out HFS.out HPF.out (by have h5 : ps.length ≤ 5 := hyes.fetch.count.2; rw [List.length_replicate]; omega) (by have h5 : ps.length ≤ 5 := hyes.fetch.count.2; have h6 : ss.length = ps.length := hyes.many; omega))
      have HN72 := hid (HN7r.out.below hb2)
      have HB2 := hid (HBW.out.trans (hb2.mono hzr))
      have hz2 := HB2.out.size
      clear hyes hsc hb2 x0 x1 x2 x3 x4 x5 x6 x7 HOW
      go_wp2_with fail
      refine HSW.out.mono ?_
      rintro e w3 ⟨vi3, vp3, vq3, vu3, vs3, qs3, os3, rfl, hq3, ho3, hw3, hb3⟩
      have N7 := HN72.out.below hb3
      have B3 := HB2.out.trans (hb3.mono hz2)
      obtain ⟨a1, c1, rfl⟩ := row_any hw3.fetch.store.items
      obtain ⟨b1, d1, rfl⟩ := row_any hw3.fetch.store.pins
      obtain ⟨e1, f1, rfl⟩ := row_any hw3.fetch.peers.row
      obtain ⟨a4, c4, rfl⟩ := row_any hw3.bools
      obtain ⟨a5, c5, rfl⟩ := row_any hw3.stores.row
      have s12 := N7.store12 (.string nm) (.int .i64 now) (.bool full) (.int .i64 wd) (.int .i64 room) (.slice a1 its.length c1) (.slice b1 ts.length d1) (.slice e1 qs3.length f1) (.slice a4 (List.replicate ps.length true).length c4) (.slice a5 os3.length c5) (.slice none 0 0) (.int .i64 0)
      have ZZ := hid (N7.set12 (.string nm) (.int .i64 now) (.bool full) (.int .i64 wd) (.int .i64 room) (.slice a1 its.length c1) (.slice b1 ts.length d1) (.slice e1 qs3.length f1) (.slice a4 (List.replicate ps.length true).length c4) (.slice a5 os3.length c5) (.slice none 0 0) (.int .i64 0))
      have BB := hid (below_set12 B3 (b := w.heap.size + 1) (by omega) (Nat.le_refl _) (.string nm) (.int .i64 now) (.bool full) (.int .i64 wd) (.int .i64 room) (.slice a1 its.length c1) (.slice b1 ts.length d1) (.slice e1 qs3.length f1) (.slice a4 (List.replicate ps.length true).length c4) (.slice a5 os3.length c5) (.slice none 0 0) (.int .i64 0))
      have GG := grown_set12 w3 (w.heap.size + 1) (.string nm) (.int .i64 now) (.bool full) (.int .i64 wd) (.int .i64 room) (.slice a1 its.length c1) (.slice b1 ts.length d1) (.slice e1 qs3.length f1) (.slice a4 (List.replicate ps.length true).length c4) (.slice a5 os3.length c5) (.slice none 0 0) (.int .i64 0)
      have HWO := hid ((hw3.besides N7 GG).base (by omega : w.heap.size ≤ _))
      have HQ3 := hid hq3
      have HO3 := hid ho3
      obtain ⟨y0, k0, y1, k1, y2, k2, y3, k3, y4, k4, y5, k5, y6, k6, y7, k7, y8, k8, y9, k9, y10, k10, y11, k11⟩ := s12
      simp only [List.length_replicate] at *
      clear N7 B3 GG hw3 hq3 ho3 hb3
      go_wp2
      rw [set12_def]
      exact bodyPost_ret (v := .agg #[.string nm, .int .i64 now, .bool full, .int .i64 wd, .int .i64 room, .slice a1 its.length c1, .slice b1 ts.length d1, .slice e1 qs3.length f1, .slice a4 ps.length c4, .slice a5 os3.length c5, .slice none 0 0, .int .i64 0]) (by simp [results, Tryz.results9, go_sem, ZZ.out.cell]) rfl (NewOwn.yes HYES.out HQ3.out HO3.out HWO.out BB.out)
end Go.Proofs.YtlnkhbnbcmllaaaGreat
