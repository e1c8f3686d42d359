/- impl.FetchTake. -/
import Derived.Test.YtbihndholamdfaaGreatDoorTakeImpl
import Derived.Test.YtbihndholamdfaaGreatDoorHuntFetch
import Derived.Test.YtbihndholamdfaaGreatDoorOpenFetch
namespace Go.Proofs.YtbihndholamdfaaGreatDoor
open Go.RowKit
set_option maxRecDepth 100000 in
set_option maxHeartbeats 4000000 in
theorem implFetchTake_any (nm : ByteArray) (now : Int) (full : Bool) (wd room : Int) (vi vp vq : Value) (its : Itms) (ts : List ByteArray) (ps : Prs) (fr tg : Int) (sum : ByteArray) (has : Bool) (text : ByteArray) (w : World) (hi : RdI w vi its) (hp : Reads w vp ts) (hq : RdP w vq ps) (hnm : nm.size ≤ 1048576) (hli : its.length ≤ 1048576) (hlp : ts.length ≤ 1048576) (hlq : ps.length ≤ 1048576) (hsi : ∀ i, (itx its i).size ≤ 1048576) (hsp : ∀ i, (tv ts i).size ≤ 1048576) (hf : PsFit 1048576 ps) (hfr : (Lit.int .i64 fr).wf = true) (htx : text.size ≤ 1048576) (hE : Errs w) :
  Calls Tryz.prog 18 #[fval nm now full wd room vi vp vq, .agg #[.int .i64 fr, .int .i64 tg, .string sum, .bool has, .string text]] w fun e w' => ∃ nm' now' full' wd' room' its' ts' qs' vi' vp' vq', e = .returned (fval nm' now' full' wd' room' vi' vp' vq') ∧ TakeR nm now full wd room its ts ps fr tg sum has text nm' now' full' wd' room' its' ts' (qs'.map Prod.fst) ∧ FetchOwn w' (w.heap.size + 3) vi' vp' vq' its' ts' qs' ∧ Below w.heap.size w w' := by
 have HI := hid hi
 have HP := hid hp
 have HQ := hid hq
 obtain ⟨ai, ci, rfl, _⟩ := hi
 obtain ⟨ap, cp, rfl, _⟩ := hp.form
 obtain ⟨aq, cq, rfl, _⟩ := hq
 have hA := (((Below.refl w.heap.size w).alloc (Nat.le_refl _) (.cells (fcells nm now full wd room (.slice ai its.length ci) (.slice ap ts.length cp) (.slice aq ps.length cq)) 35)).alloc (by simp) (.cells #[.int .i64 fr, .int .i64 tg, .string sum, .bool has, .string text] 49)).alloc (by simp; omega) (.cells fzero 35)
 have N2 := (Blk.new (w.alloc (.cells (fcells nm now full wd room (.slice ai its.length ci) (.slice ap ts.length cp) (.slice aq ps.length cq)) 35)) 49 #[.int .i64 fr, .int .i64 tg, .string sum, .bool has, .string text]).alloc (.cells fzero 35)
 rw [World.size_alloc] at N2
 have N3 := Blk.new ((w.alloc (.cells (fcells nm now full wd room (.slice ai its.length ci) (.slice ap ts.length cp) (.slice aq ps.length cq)) 35)).alloc (.cells #[.int .i64 fr, .int .i64 tg, .string sum, .bool has, .string text] 49)) 35 fzero
 rw [World.size_alloc, World.size_alloc] at N3
 obtain ⟨w3, hw3⟩ : ∃ x, x = ((w.alloc (.cells (fcells nm now full wd room (.slice ai its.length ci) (.slice ap ts.length cp) (.slice aq ps.length cq)) 35)).alloc (.cells #[.int .i64 fr, .int .i64 tg, .string sum, .bool has, .string text] 49)).alloc (.cells fzero 35) := ⟨_, rfl⟩
 have hz : w3.heap.size = w.heap.size + 3 := by rw [hw3, World.size_alloc, World.size_alloc, World.size_alloc]
 rw [← hw3] at hA N2 N3
 have hza : w.heap.size + 3 ≤ w3.heap.size := by omega
 have hzb : w3.heap.size ≤ w.heap.size + 3 := by omega
 have HA := hid hA
 have HN2 := hid N2
 have HN3 := hid N3
 have HE := hid hE
 have HO := hid (openFetch_any nm now full wd room _ _ _ its ts ps w3 (HI.out.below hA) (HP.out.below hA) (HQ.out.below hA) hli hlp hlq hsi hsp hf)
 clear hp hA N2 N3 hsi hsp hf hE hz
 go_enter Tryz.func18, Tryz.ntmps18
 go_wp2_with fail
 rw [← hw3]
 clear hw3
 refine HO.out.mono ?_
 rintro e w4 (⟨hn, rfl, hb4⟩ | ⟨hv, C1, C2, hb, pm, sb, mb, vc, qs, pbs, rfl, hqs, hH, hb4⟩)
 ·have HF : Hid (TakeR nm now full wd room its ts ps fr tg sum has text ⟨#[]⟩ 0 false 0 0 [] [] (([] : PV).map Prod.fst)) := hid (.inl ⟨hn, rfl, rfl, rfl, rfl, rfl, rfl, rfl, rfl⟩)
  have B4 := HA.out.trans (hb4.mono HA.out.size)
  have NR := HN3.out.below hb4
  have s := NR.store8 (.string ⟨#[]⟩) (.int .i64 0) (.bool false) (.int .i64 0) (.int .i64 0) (.slice none 0 0) (.slice none 0 0) (.slice none 0 0)
  obtain ⟨q0, k0, q1, k1, q2, k2, q3, k3, q4, k4, q5, k5, q6, k6, q7, k7⟩ := s
  have Z := hid (NR.set8 (.string ⟨#[]⟩) (.int .i64 0) (.bool false) (.int .i64 0) (.int .i64 0) (.slice none 0 0) (.slice none 0 0) (.slice none 0 0))
  have BB := hid (below_set8 B4 (b := w.heap.size + 1 + 1) (by omega) (Nat.le_refl _) (.string ⟨#[]⟩) (.int .i64 0) (.bool false) (.int .i64 0) (.int .i64 0) (.slice none 0 0) (.slice none 0 0) (.slice none 0 0))
  clear NR B4 hb4 hn
  go_wp2
  rw [set8_def]
  refine bodyPost_ret (v := fval ⟨#[]⟩ 0 false 0 0 (.slice none 0 0) (.slice none 0 0) (.slice none 0 0)) (by simp [results, Tryz.results18, go_sem, Z.out.cell]) rfl ⟨⟨#[]⟩, 0, false, 0, 0, [], [], [], _, _, _, rfl, HF.out, FetchOwn.none _ _, BB.out⟩
 ·obtain ⟨ac, cc, rfl⟩ := row_any hH.shelf.row
  have hv' : ValidF nm now wd room its ts (qs.map Prod.fst) := by rw [hqs]; exact hv
  have HV := hid hv'
  have HQS := hid hqs
  have HB4 := hid hb4
  have hs4 := hb4.size
  have HTK := hid (huntTake_any w3.heap.size C1 C2 hb pm sb mb ac cc nm now full wd room its ts qs pbs _ _ fr tg sum has text w4 hH hv' hfr htx (fun W h => HE.out.below (HA.out.trans ((hb4.trans h).mono HA.out.size))) hs4)
  have M4 := HN2.out.below hb4
  have m0 : w4.cell? ⟨w.heap.size + 1, 0, none⟩ = some (.int .i64 fr) := M4.cell 0
  have m1 : w4.cell? ⟨w.heap.size + 1, 1, none⟩ = some (.int .i64 tg) := M4.cell 1
  have m2 : w4.cell? ⟨w.heap.size + 1, 2, none⟩ = some (.string sum) := M4.cell 2
  have m3 : w4.cell? ⟨w.heap.size + 1, 3, none⟩ = some (.bool has) := M4.cell 3
  have m4 : w4.cell? ⟨w.heap.size + 1, 4, none⟩ = some (.string text) := M4.cell 4
  clear hv hv' hqs hH hb4 M4
  go_wp2_with fail
  refine HTK.out.mono ?_
  rintro e w5 ⟨rfl, full', its', tot', qs', lk', hts, hrd, hb5⟩
  have hvf := hts.valid HV.out
  have hwd8 : 1 ≤ wd ∧ wd ≤ 8 := by have := hvf.store.width; simpa [isW] using this
  have hcnt := hvf.count
  rw [List.length_map] at hcnt
  have HFT := hid (huntFetch_any hb pm sb mb _ nm now full' wd room tot' its' ts qs' pbs _ lk' w5 hrd (ascI_of hvf.store.each) (by have := hvf.store.items; omega) hlp (by omega) (item_small hvf.store.each) (pin_small hvf.store.sums hwd8.2) hnm (fun i hi => by have h := hvf.each i (by rw [List.length_map]; exact hi); rw [pat_fst] at h; exact prok_fits h hwd8.2))
  have HTS := hid hts
  have HB5 := hid (HB4.out.trans hb5)
  have HVF := hid hvf
  have hs5 := HB5.out.size
  clear hts hrd hb5 hvf m0 m1 m2 m3 m4
  go_wp2_with fail
  refine HFT.out.mono ?_
  rintro e w6 ⟨vi6, vp6, vq6, qs9, rfl, hq9, fo, hb6⟩
  obtain ⟨a6, c6, rfl⟩ := row_any fo.store.items
  obtain ⟨b6, d6, rfl⟩ := row_any fo.store.pins
  obtain ⟨e6, g6, rfl⟩ := row_any fo.peers.row
  have HF : Hid (TakeR nm now full wd room its ts ps fr tg sum has text nm now full' wd room its' ts (qs9.map Prod.fst)) := hid (.inr ⟨by rw [← HQS.out]; exact HV.out, rfl, rfl, rfl, rfl, rfl, by rw [hq9, ← HQS.out]; exact HTS.out⟩)
  have B6 := HA.out.trans ((HB5.out.trans (hb6.mono hs5)).mono HA.out.size)
  have NR : Blk w6 (w.heap.size + 1 + 1) 35 fzero := (HN3.out.belowAt HB5.out (by omega)).below hb6
  have s := NR.store8 (.string nm) (.int .i64 now) (.bool full') (.int .i64 wd) (.int .i64 room) (.slice a6 its'.length c6) (.slice b6 ts.length d6) (.slice e6 qs9.length g6)
  obtain ⟨q0, k0, q1, k1, q2, k2, q3, k3, q4, k4, q5, k5, q6, k6, q7, k7⟩ := s
  have Z := hid (NR.set8 (.string nm) (.int .i64 now) (.bool full') (.int .i64 wd) (.int .i64 room) (.slice a6 its'.length c6) (.slice b6 ts.length d6) (.slice e6 qs9.length g6))
  have BB := hid (below_set8 B6 (b := w.heap.size + 1 + 1) (by omega) (Nat.le_refl _) (.string nm) (.int .i64 now) (.bool full') (.int .i64 wd) (.int .i64 room) (.slice a6 its'.length c6) (.slice b6 ts.length d6) (.slice e6 qs9.length g6))
  have FO := hid ((fo.kept (grown_set8 w6 (w.heap.size + 1 + 1) (.string nm) (.int .i64 now) (.bool full') (.int .i64 wd) (.int .i64 room) (.slice a6 its'.length c6) (.slice b6 ts.length d6) (.slice e6 qs9.length g6)) (by omega)).base (show w.heap.size + 3 ≤ w5.heap.size + 1 by omega))
  clear NR B6 hb6 fo hq9
  go_wp2
  rw [set8_def]
  refine bodyPost_ret (v := fval nm now full' wd room (.slice a6 its'.length c6) (.slice b6 ts.length d6) (.slice e6 qs9.length g6)) (by simp [results, Tryz.results18, go_sem, Z.out.cell]) rfl ⟨nm, now, full', wd, room, its', ts, qs9, _, _, _, rfl, HF.out, FO.out, BB.out⟩
end Go.Proofs.YtbihndholamdfaaGreatDoor
