/- spec.FetchTake. -/
import Derived.Test.YtbihndholamdfaaGreatDoorShort
import Derived.Test.YtbihndholamdfaaGreatDoorPeerSet
import Derived.Test.YtbihndholamdfaaGreatDoorPutSpec
import Derived.Test.YtbihndholamdfaaGreatDoorReadSpec
namespace Go.Proofs.YtbihndholamdfaaGreatDoor
open Go.RowKit
/-- What FetchTake answers, and where it lies. -/
def TakeP (nm : ByteArray) (now : Int) (full : Bool) (wd room : Int) (its : Itms) (ts : List ByteArray) (qs0 : PV) (fr tg : Int) (sum : ByteArray) (has : Bool) (text : ByteArray) (w : World) (e : Ending) (w' : World) : Prop :=
 ∃ nm' now' full' wd' room' its' ts' qs' vi' vp' vq', e = .returned (fval nm' now' full' wd' room' vi' vp' vq') ∧ TakeR nm now full wd room its ts (qs0.map Prod.fst) fr tg sum has text nm' now' full' wd' room' its' ts' (qs'.map Prod.fst) ∧ FetchOwn w' (w.heap.size + 3) vi' vp' vq' its' ts' qs' ∧ Below w.heap.size w w'
set_option maxRecDepth 100000 in
set_option maxHeartbeats 16000000 in
theorem specFetchTake_any (nm : ByteArray) (now : Int) (full : Bool) (wd room : Int) (vi vp vq : Value) (its : Itms) (ts : List ByteArray) (qs0 : PV) (fr tg : Int) (sum : ByteArray) (has : Bool) (text : ByteArray) (w : World) (B : Nat) (hf : FetchOwn w B vi vp vq its ts qs0) (hli : its.length ≤ 1048576) (hlp : ts.length ≤ 1048576) (hlq : qs0.length ≤ 1048576) (hsi : ∀ i, (itx its i).size ≤ 1048576) (hsp : ∀ i, (tv ts i).size ≤ 1048576) (hpf : PsFit 1048576 (qs0.map Prod.fst)) (htx : text.size ≤ 1048576) :
  Calls Tryz.prog 16 #[fval nm now full wd room vi vp vq, .agg #[.int .i64 fr, .int .i64 tg, .string sum, .bool has, .string text]] w (TakeP nm now full wd room its ts qs0 fr tg sum has text w) := by
 obtain ⟨ai, ci, hvi⟩ := row_any hf.store.items
 subst hvi
 obtain ⟨ap, cp, hvp⟩ := row_any hf.store.pins
 subst hvp
 obtain ⟨aq, cq, hvq⟩ := row_any hf.peers.row
 subst hvq
 have hA := (((Below.refl w.heap.size w).alloc (Nat.le_refl _) (.cells (fcells nm now full wd room (.slice ai its.length ci) (.slice ap ts.length cp) (.slice aq qs0.length cq)) 35)).alloc (by simp) (.cells #[.int .i64 fr, .int .i64 tg, .string sum, .bool has, .string text] 49)).alloc (by simp; omega) (.cells fzero 35)
 have N1 := ((Blk.new w 35 (fcells nm now full wd room (.slice ai its.length ci) (.slice ap ts.length cp) (.slice aq qs0.length cq))).alloc (.cells #[.int .i64 fr, .int .i64 tg, .string sum, .bool has, .string text] 49)).alloc (.cells fzero 35)
 have N2 := (Blk.new (w.alloc (.cells (fcells nm now full wd room (.slice ai its.length ci) (.slice ap ts.length cp) (.slice aq qs0.length cq)) 35)) 49 #[.int .i64 fr, .int .i64 tg, .string sum, .bool has, .string text]).alloc (.cells fzero 35)
 rw [World.size_alloc] at N2
 have N3 := Blk.new ((w.alloc (.cells (fcells nm now full wd room (.slice ai its.length ci) (.slice ap ts.length cp) (.slice aq qs0.length cq)) 35)).alloc (.cells #[.int .i64 fr, .int .i64 tg, .string sum, .bool has, .string text] 49)) 35 fzero
 rw [World.size_alloc, World.size_alloc] at N3
 obtain ⟨w3, hw3⟩ : ∃ x, x = ((w.alloc (.cells (fcells nm now full wd room (.slice ai its.length ci) (.slice ap ts.length cp) (.slice aq qs0.length cq)) 35)).alloc (.cells #[.int .i64 fr, .int .i64 tg, .string sum, .bool has, .string text] 49)).alloc (.cells fzero 35) := ⟨_, rfl⟩
 have hz : w3.heap.size = w.heap.size + 3 := by rw [hw3, World.size_alloc, World.size_alloc, World.size_alloc]
 rw [← hw3] at hA N1 N2 N3
 have hza : w.heap.size + 3 ≤ w3.heap.size := by omega
 have hzb : w3.heap.size ≤ w.heap.size + 3 := by omega
 have HA := hid hA
 have HN1 := hid N1
 have HN2 := hid N2
 have HN3 := hid N3
 have HF0 := hid (hf.below hA)
 have HSI := hid hsi
 have HSP := hid hsp
 have hlq' : (qs0.map Prod.fst).length ≤ 1048576 := by rw [List.length_map]; exact hlq
 have HV := hid (specValidFetch_any nm now full wd room _ _ _ its ts (qs0.map Prod.fst) w3 (hf.below hA).store.rdi (Reads.of_row (hf.below hA).store.pins) (hf.below hA).peers.rdp hli hlp hlq' hsi hsp hpf)
 have HPF := hid hpf
 have HCP := hid fun (W : World) (h : FetchOwn W B (.slice ai its.length ci) (.slice ap ts.length cp) (.slice aq qs0.length cq) its ts qs0) => l7Copy_any nm now full wd room _ _ _ its ts qs0 W B h hli hlp hlq (fun i hi => by have h2 := (hpf i (by rw [List.length_map]; exact hi)).nots; rw [pat_fst] at h2; exact h2)
 have hL := fun W => l1In_any fr 1 (qs0.length : Int) W
 clear hf hA N1 N2 N3 hsi hsp hpf hz hlq'
 go_enter Tryz.func16, Tryz.ntmps16
 go_wp2_with fail
 rw [← hw3]
 clear hw3
 refine HV.out.mono ?_
 rintro e w4 ⟨b, rfl, hb, hb4⟩
 have hs4 := hb4.size
 cases b with
 | false =>
  have HF : Hid (TakeR nm now full wd room its ts (qs0.map Prod.fst) fr tg sum has text ⟨#[]⟩ 0 false 0 0 [] [] (([] : PV).map Prod.fst)) := hid (.inl ⟨(fun h => by have := hb.2 h; cases this), rfl, rfl, rfl, rfl, rfl, rfl, rfl, rfl⟩)
  have B4 := HA.out.trans (hb4.mono HA.out.size)
  have NR := HN3.out.below hb4
  have s := NR.store8 (.string ⟨#[]⟩) (.int .i64 0) (.bool false) (.int .i64 0) (.int .i64 0) (.slice none 0 0) (.slice none 0 0) (.slice none 0 0)
  obtain ⟨q0, k0, q1, k1, q2, k2, q3, k3, q4, k4, q5, k5, q6, k6, q7, k7⟩ := s
  have Z := hid (NR.set8 (.string ⟨#[]⟩) (.int .i64 0) (.bool false) (.int .i64 0) (.int .i64 0) (.slice none 0 0) (.slice none 0 0) (.slice none 0 0))
  have BB := hid (below_set8 B4 (b := w.heap.size + 1 + 1) (by omega) (Nat.le_refl _) (.string ⟨#[]⟩) (.int .i64 0) (.bool false) (.int .i64 0) (.int .i64 0) (.slice none 0 0) (.slice none 0 0) (.slice none 0 0))
  clear NR B4 hb4 hb hL
  go_wp2
  rw [set8_def]
  exact bodyPost_ret (v := fval ⟨#[]⟩ 0 false 0 0 (.slice none 0 0) (.slice none 0 0) (.slice none 0 0)) (by simp [results, Tryz.results16, go_sem, Z.out.cell]) rfl (by unfold TakeP; exact ⟨⟨#[]⟩, 0, false, 0, 0, [], [], [], _, _, _, rfl, HF.out, FetchOwn.none _ _, BB.out⟩)
 | true =>
 have HVAL := hid (hb.1 rfl)
 have HCP4 := hid (HCP.out w4 (HF0.out.below hb4))
 have X4 := HN1.out.below hb4
 have x0 : w4.cell? ⟨w.heap.size, 0, none⟩ = some (.string nm) := X4.cell 0
 have x1 : w4.cell? ⟨w.heap.size, 1, none⟩ = some (.int .i64 now) := X4.cell 1
 have x2 : w4.cell? ⟨w.heap.size, 2, none⟩ = some (.bool full) := X4.cell 2
 have x3 : w4.cell? ⟨w.heap.size, 3, none⟩ = some (.int .i64 wd) := X4.cell 3
 have x4 : w4.cell? ⟨w.heap.size, 4, none⟩ = some (.int .i64 room) := X4.cell 4
 have x5 : w4.cell? ⟨w.heap.size, 5, none⟩ = some (.slice ai its.length ci) := X4.cell 5
 have x6 : w4.cell? ⟨w.heap.size, 6, none⟩ = some (.slice ap ts.length cp) := X4.cell 6
 have x7 : w4.cell? ⟨w.heap.size, 7, none⟩ = some (.slice aq qs0.length cq) := X4.cell 7
 have HB4 := hid hb4
 clear hb X4 hb4
 go_wp2_with fail
 refine HCP4.out.mono ?_
 rintro e w5 ⟨vi1, vp1, vq1, qs1, rfl, hq1, fo1, hb5⟩
 obtain ⟨a1, c1, rfl⟩ := row_any fo1.store.items
 obtain ⟨b1, d1, rfl⟩ := row_any fo1.store.pins
 obtain ⟨e1, g1, rfl⟩ := row_any fo1.peers.row
 have hla : qs1.length ≤ qs0.length := by have := congrArg List.length hq1; simp at this; omega
 have hlb : qs0.length ≤ qs1.length := by have := congrArg List.length hq1; simp at this; omega
 have hcnt := HVAL.out.count
 rw [List.length_map] at hcnt
 have hs5 := hb5.size
 have HPS := hid hq1
 obtain ⟨gq, capq, eq, hgq, hgql⟩ := World.ownsRow.form fo1.peers.row (by omega)
 obtain ⟨rfl, _, rfl⟩ : e1 = some ⟨gq, 0, none⟩ ∧ qs1.length = qs1.length ∧ g1 = capq := Value.slice.inj eq
 have B5 := HB4.out.trans (hb5.mono hs4)
 have D6 : Below w5.heap.size w5 (w5.alloc (.cells (fcells nm now full wd room (.slice a1 its.length c1) (.slice b1 ts.length d1) (.slice (some ⟨gq, 0, none⟩) qs1.length g1)) 35)) := (Below.refl _ _).alloc (Nat.le_refl _) _
 have X6 := Blk.new w5 35 (fcells nm now full wd room (.slice a1 its.length c1) (.slice b1 ts.length d1) (.slice (some ⟨gq, 0, none⟩) qs1.length g1))
 have N6 := (HN1.out.below B5).below D6
 have M6 := (HN2.out.below B5).below D6
 have R6 := (HN3.out.below B5).below D6
 have FO6 := (fo1.below D6).base (show w4.heap.size ≤ w4.heap.size + 2 by omega)
 have B6 := (HA.out.trans (B5.mono HA.out.size)).trans (D6.mono (by omega))
 obtain ⟨w6, hw6⟩ : ∃ x, x = w5.alloc (.cells (fcells nm now full wd room (.slice a1 its.length c1) (.slice b1 ts.length d1) (.slice (some ⟨gq, 0, none⟩) qs1.length g1)) 35) := ⟨_, rfl⟩
 have hz6 : w6.heap.size = w5.heap.size + 1 := by rw [hw6, World.size_alloc]
 rw [← hw6] at X6 N6 M6 R6 FO6 B6
 have hs6 : w5.heap.size + 1 ≤ w6.heap.size := by omega
 have hs6b : w6.heap.size ≤ w5.heap.size + 1 := by omega
 have HX6 := hid X6
 have HN6 := hid N6
 have HM6 := hid M6
 have HR6 := hid R6
 have HFO6 := hid FO6
 have HB6 := hid B6
 have m0 : w6.cell? ⟨w.heap.size + 1, 0, none⟩ = some (.int .i64 fr) := M6.cell 0
 have m1 : w6.cell? ⟨w.heap.size + 1, 1, none⟩ = some (.int .i64 tg) := M6.cell 1
 have y7 : w6.cell? ⟨w.heap.size, 7, none⟩ = some (.slice aq qs0.length cq) := N6.cell 7
 have HNO : Hid (¬ Asks (qs0.map Prod.fst) fr tg sum → TakeR nm now full wd room its ts (qs0.map Prod.fst) fr tg sum has text nm now full wd room its ts (qs1.map Prod.fst)) := hid fun h => .inr ⟨HVAL.out, rfl, rfl, rfl, rfl, rfl, .inl ⟨h, rfl, rfl, HPS.out⟩⟩
 clear x0 x1 x2 x3 x4 x5 x6 x7 hq1 fo1 hb5 B5 D6 X6 N6 M6 R6 FO6 B6 eq hz6
 go_upto_region 4 with fail
 rw [← hw6]
 clear hw6
 by_cases htg : tg = 0
 case neg =>
  have htg' : (tg != 0) = true := by simpa using htg
  have HF := hid (HNO.out (fun h => htg h.tgt))
  have c0' : w6.cell? ⟨w5.heap.size, 0, none⟩ = some (.string nm) := HX6.out.cell 0
  have c1' : w6.cell? ⟨w5.heap.size, 1, none⟩ = some (.int .i64 now) := HX6.out.cell 1
  have c2' : w6.cell? ⟨w5.heap.size, 2, none⟩ = some (.bool full) := HX6.out.cell 2
  have c3' : w6.cell? ⟨w5.heap.size, 3, none⟩ = some (.int .i64 wd) := HX6.out.cell 3
  have c4' : w6.cell? ⟨w5.heap.size, 4, none⟩ = some (.int .i64 room) := HX6.out.cell 4
  have c5' : w6.cell? ⟨w5.heap.size, 5, none⟩ = some (.slice a1 its.length c1) := HX6.out.cell 5
  have c6' : w6.cell? ⟨w5.heap.size, 6, none⟩ = some (.slice b1 ts.length d1) := HX6.out.cell 6
  have c7' : w6.cell? ⟨w5.heap.size, 7, none⟩ = some (.slice (some ⟨gq, 0, none⟩) qs1.length g1) := HX6.out.cell 7
  have s := HR6.out.store8 (.string nm) (.int .i64 now) (.bool full) (.int .i64 wd) (.int .i64 room) (.slice a1 its.length c1) (.slice b1 ts.length d1) (.slice (some ⟨gq, 0, none⟩) qs1.length g1)
  obtain ⟨q0, k0, q1, k1, q2, k2, q3, k3, q4, k4, q5, k5, q6, k6, q7, k7⟩ := s
  have HZ := hid (HR6.out.set8 (.string nm) (.int .i64 now) (.bool full) (.int .i64 wd) (.int .i64 room) (.slice a1 its.length c1) (.slice b1 ts.length d1) (.slice (some ⟨gq, 0, none⟩) qs1.length g1))
  have BB := hid (below_set8 HB6.out (b := w.heap.size + 1 + 1) (by omega) (Nat.le_refl _) (.string nm) (.int .i64 now) (.bool full) (.int .i64 wd) (.int .i64 room) (.slice a1 its.length c1) (.slice b1 ts.length d1) (.slice (some ⟨gq, 0, none⟩) qs1.length g1))
  have FOR := hid ((HFO6.out.kept (grown_set8 w6 (w.heap.size + 1 + 1) (.string nm) (.int .i64 now) (.bool full) (.int .i64 wd) (.int .i64 room) (.slice a1 its.length c1) (.slice b1 ts.length d1) (.slice (some ⟨gq, 0, none⟩) qs1.length g1)) (by omega)).base (show w.heap.size + 3 ≤ w4.heap.size by omega))
  go_wp2
  rw [set8_def]
  exact bodyPost_ret (v := fval nm now full wd room (.slice a1 its.length c1) (.slice b1 ts.length d1) (.slice (some ⟨gq, 0, none⟩) qs1.length g1)) (by simp [results, Tryz.results16, go_sem, HZ.out.cell]) rfl (by unfold TakeP; exact ⟨nm, now, full, wd, room, its, ts, qs1, _, _, _, rfl, HF.out, FOR.out, BB.out⟩)
 subst htg
 by_cases hin : 1 ≤ fr ∧ fr ≤ (qs0.length : Int)
 case neg =>
  have HF := hid (HNO.out (fun h => hin ⟨h.lo, by have := h.hi; rw [List.length_map] at this; exact this⟩))
  rw [decide_eq_false hin] at hL
  go_wp2_with fail
  refine (hL _).mono ?_
  rintro e w' ⟨rfl, hw'⟩
  have hw'' := hw'.symm
  subst hw''
  clear hw' hin
  have c0' : w6.cell? ⟨w5.heap.size, 0, none⟩ = some (.string nm) := HX6.out.cell 0
  have c1' : w6.cell? ⟨w5.heap.size, 1, none⟩ = some (.int .i64 now) := HX6.out.cell 1
  have c2' : w6.cell? ⟨w5.heap.size, 2, none⟩ = some (.bool full) := HX6.out.cell 2
  have c3' : w6.cell? ⟨w5.heap.size, 3, none⟩ = some (.int .i64 wd) := HX6.out.cell 3
  have c4' : w6.cell? ⟨w5.heap.size, 4, none⟩ = some (.int .i64 room) := HX6.out.cell 4
  have c5' : w6.cell? ⟨w5.heap.size, 5, none⟩ = some (.slice a1 its.length c1) := HX6.out.cell 5
  have c6' : w6.cell? ⟨w5.heap.size, 6, none⟩ = some (.slice b1 ts.length d1) := HX6.out.cell 6
  have c7' : w6.cell? ⟨w5.heap.size, 7, none⟩ = some (.slice (some ⟨gq, 0, none⟩) qs1.length g1) := HX6.out.cell 7
  have s := HR6.out.store8 (.string nm) (.int .i64 now) (.bool full) (.int .i64 wd) (.int .i64 room) (.slice a1 its.length c1) (.slice b1 ts.length d1) (.slice (some ⟨gq, 0, none⟩) qs1.length g1)
  obtain ⟨q0, k0, q1, k1, q2, k2, q3, k3, q4, k4, q5, k5, q6, k6, q7, k7⟩ := s
  have HZ := hid (HR6.out.set8 (.string nm) (.int .i64 now) (.bool full) (.int .i64 wd) (.int .i64 room) (.slice a1 its.length c1) (.slice b1 ts.length d1) (.slice (some ⟨gq, 0, none⟩) qs1.length g1))
  have BB := hid (below_set8 HB6.out (b := w.heap.size + 1 + 1) (by omega) (Nat.le_refl _) (.string nm) (.int .i64 now) (.bool full) (.int .i64 wd) (.int .i64 room) (.slice a1 its.length c1) (.slice b1 ts.length d1) (.slice (some ⟨gq, 0, none⟩) qs1.length g1))
  have FOR := hid ((HFO6.out.kept (grown_set8 w6 (w.heap.size + 1 + 1) (.string nm) (.int .i64 now) (.bool full) (.int .i64 wd) (.int .i64 room) (.slice a1 its.length c1) (.slice b1 ts.length d1) (.slice (some ⟨gq, 0, none⟩) qs1.length g1)) (by omega)).base (show w.heap.size + 3 ≤ w4.heap.size by omega))
  go_wp2
  rw [set8_def]
  exact bodyPost_ret (v := fval nm now full wd room (.slice a1 its.length c1) (.slice b1 ts.length d1) (.slice (some ⟨gq, 0, none⟩) qs1.length g1)) (by simp [results, Tryz.results16, go_sem, HZ.out.cell]) rfl (by unfold TakeP; exact ⟨nm, now, full, wd, room, its, ts, qs1, _, _, _, rfl, HF.out, FOR.out, BB.out⟩)
 rw [decide_eq_true hin] at hL
 obtain ⟨i, hi⟩ : ∃ x, x = (fr - 1).toNat := ⟨_, rfl⟩
 have hlt : i < qs1.length := by omega
 have hfi : fr - 1 = (i : Int) := by omega
 have hwr : IntKind.i64.wrap (fr - 1) = (i : Int) := by rw [IntKind.wrap_i64]; omega
 have HLH : Hid (1 ≤ fr ∧ fr ≤ ((qs0.map Prod.fst).length : Int)) := hid (by rw [List.length_map]; exact hin)
 have hok := HVAL.out.each i (by rw [List.length_map]; omega)
 rw [← HPS.out, pat_fst] at hok
 have HPA : Hid (pat (qs0.map Prod.fst) (fr - 1).toNat = qp qs1 i) := hid (by rw [← hi, ← HPS.out]; exact pat_fst qs1 i)
 have HII := hid hi
 have hq5 := cellsQ_at qs1 i hlt
 have hrw := HFO6.out.peers.row
 obtain ⟨v, hv⟩ : ∃ x, qv qs1 i = x := ⟨_, rfl⟩
 obtain ⟨p, hp⟩ : ∃ x, qp qs1 i = x := ⟨_, rfl⟩
 rw [hv, hp] at hq5
 rw [hp] at hok HPA
 have g0 : w6.cell? ⟨gq, i * 5, none⟩ = some (.int .i64 p.lies) := (hrw.cellAt (i * 5) (by omega)).trans hq5.c0
 have g1' : w6.cell? ⟨gq, i * 5 + 1, none⟩ = some (.int .i64 p.wait) := (hrw.cellAt (i * 5 + 1) (by omega)).trans hq5.c1
 have g2 : w6.cell? ⟨gq, i * 5 + 2, none⟩ = some (.int .i64 p.last) := (hrw.cellAt (i * 5 + 2) (by omega)).trans hq5.c2
 have g3 : w6.cell? ⟨gq, i * 5 + 3, none⟩ = some (.string p.asked) := (hrw.cellAt (i * 5 + 3) (by omega)).trans hq5.c3
 have g4 : w6.cell? ⟨gq, i * 5 + 4, none⟩ = some v := (hrw.cellAt (i * 5 + 4) (by omega)).trans hq5.c4
 have HNV : Hid (w6.ownsRow w4.heap.size 9 1 v p.nots.length (p.nots.map Value.string)) := hid (by rw [← hv, ← hp]; exact HFO6.out.peers.nots i hlt)
 have HV1 := hid hv
 have HP1 := hid hp
 clear hi hv hp hq5 hrw hin
 obtain ⟨pl, pw, pt, pa, pn⟩ := p
 obtain ⟨an, cn, rfl⟩ := row_any HNV.out
 dsimp only at g0 g1' g2 g3 g4 HNV
 have HOK := hid hok
 have hpw := hok.wait
 have hpl3 := hok.lies
 have hpm := hok.many
 dsimp only at hpw hpl3 hpm
 have z7 : w6.cell? ⟨w5.heap.size, 7, none⟩ = some (.slice (some ⟨gq, 0, none⟩) qs1.length g1) := HX6.out.cell 7
 have hii : ((i : Nat) : Int) < ((qs1.length : Nat) : Int) := by omega
 have D7 : Below w6.heap.size w6 (w6.alloc (.cells #[.int .i64 pl, .int .i64 pw, .int .i64 pt, .string pa, .slice an pn.length cn] 57)) := (Below.refl _ _).alloc (Nat.le_refl _) _
 have P7 := Blk.new w6 57 #[.int .i64 pl, .int .i64 pw, .int .i64 pt, .string pa, .slice an pn.length cn]
 have X7 := HX6.out.below D7
 have N7 := HN6.out.below D7
 have M7 := HM6.out.below D7
 have R7 := HR6.out.below D7
 have FO7 := HFO6.out.below D7
 have B7 := HB6.out.trans (D7.mono HB6.out.size)
 obtain ⟨w7, hw7⟩ : ∃ x, x = w6.alloc (.cells #[.int .i64 pl, .int .i64 pw, .int .i64 pt, .string pa, .slice an pn.length cn] 57) := ⟨_, rfl⟩
 have hz7 : w7.heap.size = w6.heap.size + 1 := by rw [hw7, World.size_alloc]
 rw [← hw7] at P7 X7 N7 M7 R7 FO7 B7
 have hs7 : w6.heap.size + 1 ≤ w7.heap.size := by omega
 have HX7 := hid X7
 have HN7 := hid N7
 have HM7 := hid M7
 have HR7 := hid R7
 have HP7 := hid P7
 have HFO7 := hid FO7
 have HB7 := hid B7
 have p1 : w7.cell? ⟨w6.heap.size, 1, none⟩ = some (.int .i64 pw) := P7.cell 1
 have p3 : w7.cell? ⟨w6.heap.size, 3, none⟩ = some (.string pa) := P7.cell 3
 have n2 : w7.cell? ⟨w.heap.size + 1, 2, none⟩ = some (.string sum) := M7.cell 2
 clear D7 P7 X7 N7 M7 R7 FO7 B7 hok hz7
 go_wp2_with fail
 refine (hL _).mono ?_
 rintro e w' ⟨rfl, hw'⟩
 have hw'' := hw'.symm
 subst hw''
 clear hw' hL
 go_upto_region 7 with fail
 rw [← hw7]
 clear hw7 g0 g1' g2 g3 g4 z7 m0 m1 y7
 by_cases hw0 : pw = 0
 case pos =>
  have HF := hid (HNO.out (fun h => h.wait (by rw [HPA.out]; exact hw0)))
  have hwb : (pw == 0) = true := by simpa using hw0
  have c0' : w7.cell? ⟨w5.heap.size, 0, none⟩ = some (.string nm) := HX7.out.cell 0
  have c1' : w7.cell? ⟨w5.heap.size, 1, none⟩ = some (.int .i64 now) := HX7.out.cell 1
  have c2' : w7.cell? ⟨w5.heap.size, 2, none⟩ = some (.bool full) := HX7.out.cell 2
  have c3' : w7.cell? ⟨w5.heap.size, 3, none⟩ = some (.int .i64 wd) := HX7.out.cell 3
  have c4' : w7.cell? ⟨w5.heap.size, 4, none⟩ = some (.int .i64 room) := HX7.out.cell 4
  have c5' : w7.cell? ⟨w5.heap.size, 5, none⟩ = some (.slice a1 its.length c1) := HX7.out.cell 5
  have c6' : w7.cell? ⟨w5.heap.size, 6, none⟩ = some (.slice b1 ts.length d1) := HX7.out.cell 6
  have c7' : w7.cell? ⟨w5.heap.size, 7, none⟩ = some (.slice (some ⟨gq, 0, none⟩) qs1.length g1) := HX7.out.cell 7
  have s := HR7.out.store8 (.string nm) (.int .i64 now) (.bool full) (.int .i64 wd) (.int .i64 room) (.slice a1 its.length c1) (.slice b1 ts.length d1) (.slice (some ⟨gq, 0, none⟩) qs1.length g1)
  obtain ⟨q0, k0, q1, k1, q2, k2, q3, k3, q4, k4, q5, k5, q6, k6, q7, k7⟩ := s
  have HZ := hid (HR7.out.set8 (.string nm) (.int .i64 now) (.bool full) (.int .i64 wd) (.int .i64 room) (.slice a1 its.length c1) (.slice b1 ts.length d1) (.slice (some ⟨gq, 0, none⟩) qs1.length g1))
  have BB := hid (below_set8 HB7.out (b := w.heap.size + 1 + 1) (by omega) (Nat.le_refl _) (.string nm) (.int .i64 now) (.bool full) (.int .i64 wd) (.int .i64 room) (.slice a1 its.length c1) (.slice b1 ts.length d1) (.slice (some ⟨gq, 0, none⟩) qs1.length g1))
  have FOR := hid ((HFO7.out.kept (grown_set8 w7 (w.heap.size + 1 + 1) (.string nm) (.int .i64 now) (.bool full) (.int .i64 wd) (.int .i64 room) (.slice a1 its.length c1) (.slice b1 ts.length d1) (.slice (some ⟨gq, 0, none⟩) qs1.length g1)) (by omega)).base (show w.heap.size + 3 ≤ w4.heap.size by omega))
  go_wp2
  rw [set8_def]
  exact bodyPost_ret (v := fval nm now full wd room (.slice a1 its.length c1) (.slice b1 ts.length d1) (.slice (some ⟨gq, 0, none⟩) qs1.length g1)) (by simp [results, Tryz.results16, go_sem, HZ.out.cell]) rfl (by unfold TakeP; exact ⟨nm, now, full, wd, room, its, ts, qs1, _, _, _, rfl, HF.out, FOR.out, BB.out⟩)
 have hwb : (pw == 0) = false := by simpa using hw0
 by_cases has' : pa = sum
 case neg =>
  have HF := hid (HNO.out (fun h => has' (by have := h.asked; rw [HPA.out] at this; exact this)))
  have hae : (pa.toList == sum.toList) = false := by
   cases e : (pa.toList == sum.toList) with
   | false => rfl
   | true => exact absurd (text_eq (by simpa using e)) has'
  have c0' : w7.cell? ⟨w5.heap.size, 0, none⟩ = some (.string nm) := HX7.out.cell 0
  have c1' : w7.cell? ⟨w5.heap.size, 1, none⟩ = some (.int .i64 now) := HX7.out.cell 1
  have c2' : w7.cell? ⟨w5.heap.size, 2, none⟩ = some (.bool full) := HX7.out.cell 2
  have c3' : w7.cell? ⟨w5.heap.size, 3, none⟩ = some (.int .i64 wd) := HX7.out.cell 3
  have c4' : w7.cell? ⟨w5.heap.size, 4, none⟩ = some (.int .i64 room) := HX7.out.cell 4
  have c5' : w7.cell? ⟨w5.heap.size, 5, none⟩ = some (.slice a1 its.length c1) := HX7.out.cell 5
  have c6' : w7.cell? ⟨w5.heap.size, 6, none⟩ = some (.slice b1 ts.length d1) := HX7.out.cell 6
  have c7' : w7.cell? ⟨w5.heap.size, 7, none⟩ = some (.slice (some ⟨gq, 0, none⟩) qs1.length g1) := HX7.out.cell 7
  have s := HR7.out.store8 (.string nm) (.int .i64 now) (.bool full) (.int .i64 wd) (.int .i64 room) (.slice a1 its.length c1) (.slice b1 ts.length d1) (.slice (some ⟨gq, 0, none⟩) qs1.length g1)
  obtain ⟨q0, k0, q1, k1, q2, k2, q3, k3, q4, k4, q5, k5, q6, k6, q7, k7⟩ := s
  have HZ := hid (HR7.out.set8 (.string nm) (.int .i64 now) (.bool full) (.int .i64 wd) (.int .i64 room) (.slice a1 its.length c1) (.slice b1 ts.length d1) (.slice (some ⟨gq, 0, none⟩) qs1.length g1))
  have BB := hid (below_set8 HB7.out (b := w.heap.size + 1 + 1) (by omega) (Nat.le_refl _) (.string nm) (.int .i64 now) (.bool full) (.int .i64 wd) (.int .i64 room) (.slice a1 its.length c1) (.slice b1 ts.length d1) (.slice (some ⟨gq, 0, none⟩) qs1.length g1))
  have FOR := hid ((HFO7.out.kept (grown_set8 w7 (w.heap.size + 1 + 1) (.string nm) (.int .i64 now) (.bool full) (.int .i64 wd) (.int .i64 room) (.slice a1 its.length c1) (.slice b1 ts.length d1) (.slice (some ⟨gq, 0, none⟩) qs1.length g1)) (by omega)).base (show w.heap.size + 3 ≤ w4.heap.size by omega))
  go_wp2
  rw [set8_def]
  exact bodyPost_ret (v := fval nm now full wd room (.slice a1 its.length c1) (.slice b1 ts.length d1) (.slice (some ⟨gq, 0, none⟩) qs1.length g1)) (by simp [results, Tryz.results16, go_sem, HZ.out.cell]) rfl (by unfold TakeP; exact ⟨nm, now, full, wd, room, its, ts, qs1, _, _, _, rfl, HF.out, FOR.out, BB.out⟩)
 have hae : (pa.toList == sum.toList) = true := by rw [has']; simp
 have HASK : Hid (Asks (qs0.map Prod.fst) fr 0 sum) := hid ⟨rfl, HLH.out.1, HLH.out.2, by rw [HPA.out]; exact hw0, by rw [HPA.out]; exact has'⟩
 clear has'
 have f1 := HP7.out.fz 1
 have P8a : Blk (w7.setCell ⟨w6.heap.size, 1, none⟩ (.int .i64 0)) w6.heap.size 57 #[.int .i64 pl, .int .i64 0, .int .i64 pt, .string pa, .slice an pn.length cn] := HP7.out.set 1 (.int .i64 0)
 have p3a : (w7.setCell ⟨w6.heap.size, 1, none⟩ (.int .i64 0)).cell? ⟨w6.heap.size, 3, none⟩ = some (.string pa) := P8a.cell 3
 have f3a := P8a.fz 3
 have P8 : Blk ((w7.setCell ⟨w6.heap.size, 1, none⟩ (.int .i64 0)).setCell ⟨w6.heap.size, 3, none⟩ (.string ⟨#[]⟩)) w6.heap.size 57 #[.int .i64 pl, .int .i64 0, .int .i64 pt, .string ⟨#[]⟩, .slice an pn.length cn] := P8a.set 3 (.string ⟨#[]⟩)
 have G8 := grown_same (grownBy_setCellAt w7 w6.heap.size 1 (.int .i64 0)) (grownBy_setCellAt _ w6.heap.size 3 (.string ⟨#[]⟩))
 obtain ⟨w8, hw8⟩ : ∃ x, x = (w7.setCell ⟨w6.heap.size, 1, none⟩ (.int .i64 0)).setCell ⟨w6.heap.size, 3, none⟩ (.string ⟨#[]⟩) := ⟨_, rfl⟩
 rw [← hw8] at P8 G8
 have hs8 := G8.size
 have hfob : ∀ b, FBlk (.slice a1 its.length c1) (.slice b1 ts.length d1) (.slice (some ⟨gq, 0, none⟩) qs1.length g1) qs1 b → b ≠ w6.heap.size := fun b hb e => by have := (HFO6.out.lt b hb).2; omega
 have HFO8 := hid (HFO7.out.same (w' := w8) (fun b hb => G8.block b (HFO7.out.lt b hb).2 (fun e => hfob b hb (Option.some.inj e))))
 have HX8 := hid (HX7.out.kept G8 (fun e => by have := Option.some.inj e; omega))
 have HN8 := hid (HN7.out.kept G8 (fun e => by have := Option.some.inj e; omega))
 have HM8 := hid (HM7.out.kept G8 (fun e => by have := Option.some.inj e; omega))
 have HR8 := hid (HR7.out.kept G8 (fun e => by have := Option.some.inj e; omega))
 have HP8 := hid P8
 have HB8 := hid (HB7.out.grown G8 (by omega) (fun g e => by cases e; omega))
 have HLT := hid fun b (hb : FBlk (.slice a1 its.length c1) (.slice b1 ts.length d1) (.slice (some ⟨gq, 0, none⟩) qs1.length g1) qs1 b) => (HFO6.out.lt b hb).2
 have n3 : w8.cell? ⟨w.heap.size + 1, 3, none⟩ = some (.bool has) := HM8.out.cell 3
 have HFX : Hid (∀ b, FBlk (.slice a1 its.length c1) (.slice b1 ts.length d1) (.slice (some ⟨gq, 0, none⟩) qs1.length g1) qs1 b → b ≠ w5.heap.size) := hid fun b hb e => by
  subst e
  rcases hb with hb | hb | hb | ⟨j, hj, hb⟩
  ·exact row_off_blk HFO8.out.store.items HX8.out (by decide) hb
  ·exact row_off_blk HFO8.out.store.pins HX8.out (by decide) hb
  ·exact row_off_blk HFO8.out.peers.row HX8.out (by decide) hb
  ·exact row_off_blk (HFO8.out.peers.nots j hj) HX8.out (by decide) hb
 clear P8a P8 G8 hfob
 go_upto_region 11 with fail
 rw [← hw8]
 clear hw8 f1 p1 p3 p3a f3a n2 hwb hae
 cases has with
 | false =>
  have HAD := hid (l4Add_any (.slice an pn.length cn) pn sum _ w8 (show w8.ownsRow w4.heap.size 9 1 (.slice an pn.length cn) pn.length (pn.map Value.string) from by have h := HFO8.out.peers.nots i hlt; rw [HV1.out, HP1.out] at h; exact h) (okSums_asc HOK.out.nots) (by omega))
  have p4 : w8.cell? ⟨w6.heap.size, 4, none⟩ = some (.slice an pn.length cn) := HP8.out.cell 4
  have n2 : w8.cell? ⟨w.heap.size + 1, 2, none⟩ = some (.string sum) := HM8.out.cell 2
  go_wp2_with fail
  refine HAD.out.mono ?_
  rintro e w9 ⟨v9, rfl, hv9, hb9⟩
  have hrow9 : ∃ base, w9.ownsRow base 9 1 v9 (addT sum pn).length ((addT sum pn).map Value.string) := by
   rcases hv9 with ⟨h1, h2, rfl⟩ | ⟨h1, h2⟩
   ·rw [addT, if_pos ⟨h1, h2⟩]
    exact ⟨_, Below.row hb9 (show w8.ownsRow w4.heap.size 9 1 (.slice an pn.length cn) pn.length (pn.map Value.string) from by have h := HFO8.out.peers.nots i hlt; rw [HV1.out, HP1.out] at h; exact h)⟩
   ·rw [addT, if_neg h1]
    have e : (pn.take (cutN sum pn) ++ sum :: pn.drop (cutN sum pn)).length = pn.length + 1 := by
     have := cutN_le sum pn
     simp
     omega
    rw [e]
    exact ⟨_, h2⟩
  obtain ⟨b9, hrow9⟩ := hrow9
  obtain ⟨a9, c9, rfl⟩ := row_any hrow9
  have hal := addT_le sum pn
  have hs9 := hb9.size
  have HR9w := hid hrow9
  have HB9' := hid hb9
  clear hv9 hb9 hrow9 p4 n2 n3
  by_cases hgt : (addT sum pn).length ≤ 376
  ·have hgi : (((addT sum pn).length : Nat) : Int) ≤ 376 := by omega
   have HNA : Hid (notsA sum pn = addT sum pn) := hid (by rw [notsA, if_pos hgt])
   obtain ⟨nn, hnn⟩ : ∃ x, x = addT sum pn := ⟨_, rfl⟩
   rw [← hnn] at HR9w hgi hal HNA hgt
   have D10 : Below w9.heap.size w9 (w9.alloc (.cells #[] 9)) := (Below.refl _ _).alloc (Nat.le_refl _) _
   have hO2 : (w9.alloc (.cells #[] 9)).ownsRow w9.heap.size 9 1 (.slice (some ⟨w9.heap.size, 0, none⟩) 0 0) 0 [] := World.ownsRow_made (base := w9.heap.size) (e := 9) (size := 1) w9 #[] 0 (Nat.le_refl _) (by simp [maxLen]) rfl
   rw [← hnn]
   clear hnn
   have hP2 := HR9w.out.alloc (.cells #[] 9)
   have P9 := (HP8.out.below HB9'.out).alloc (.cells #[] 9)
   go_upto_region 15 with (at_builtin; refine append_texts rfl _ _ rfl w9.heap.size (.slice (some ⟨w9.heap.size, 0, none⟩) 0 0) rfl hO2 _ _ nn (by go_simp) hP2 (by omega) (by simp) ?_; intro u w10 hu10 hb10; obtain ⟨au, cu, rfl⟩ := row_any hu10; have P10 := P9.belowAt hb10 (by omega); have c4 := P10.cell 4; have f4 := P10.fz 4)
   have B10 : Below w8.heap.size w8 w10 := (HB9'.out.trans (D10.mono hs9)).trans (hb10.mono hs9)
   have hs10 := B10.size
   have G11 := grownBy_setCellAt w10 w6.heap.size 4 (.slice au nn.length cu)
   have P11 := P10.set 4 (.slice au nn.length cu)
   have U11 := hu10.kept G11 (.inr fun e => by have := (hu10.lt _ e).1; omega)
   have FO11 := (HFO8.out.below B10).same (w' := w10.setCell ⟨w6.heap.size, 4, none⟩ (.slice au nn.length cu)) (fun b hb => G11.block b ((HFO8.out.below B10).lt b hb).2 (fun e => by have := HLT.out b hb; have := Option.some.inj e; omega))
   have X11 := (HX8.out.below B10).kept G11 (fun e => by have := Option.some.inj e; omega)
   have M11 := (HM8.out.below B10).kept G11 (fun e => by have := Option.some.inj e; omega)
   have R11 := (HR8.out.below B10).kept G11 (fun e => by have := Option.some.inj e; omega)
   have B11 := (HB8.out.trans (B10.mono HB8.out.size)).grown G11 (by omega) (fun g e => by cases e; omega)
   obtain ⟨w11, hw11⟩ : ∃ x, x = w10.setCell ⟨w6.heap.size, 4, none⟩ (.slice au nn.length cu) := ⟨_, rfl⟩
   rw [← hw11] at P11 U11 FO11 X11 M11 R11 B11
   rw [← hw11]
   have HX9 := hid X11
   have HM9 := hid M11
   have HR9 := hid R11
   have HP9 := hid P11
   have HFO9a := hid FO11
   have HB9 := hid B11
   have HU := hid U11
   have HUL := hid fun b (e : (Value.slice au nn.length cu).ownBlock = some b) => (hu10.lt b e).1
   clear hw11 D10 hO2 hP2 P9 P10 c4 f4 hu10 hb10 B10 G11 P11 U11 FO11 X11 M11 R11 B11
   have p0' : w11.cell? ⟨w6.heap.size, 0, none⟩ = some (.int .i64 pl) := HP9.out.cell 0
   have p1' : w11.cell? ⟨w6.heap.size, 1, none⟩ = some (.int .i64 0) := HP9.out.cell 1
   have p2' : w11.cell? ⟨w6.heap.size, 2, none⟩ = some (.int .i64 pt) := HP9.out.cell 2
   have p3' : w11.cell? ⟨w6.heap.size, 3, none⟩ = some (.string ⟨#[]⟩) := HP9.out.cell 3
   have p4' : w11.cell? ⟨w6.heap.size, 4, none⟩ = some (.slice au nn.length cu) := HP9.out.cell 4
   have z7' : w11.cell? ⟨w5.heap.size, 7, none⟩ = some (.slice (some ⟨gq, 0, none⟩) qs1.length g1) := HX9.out.cell 7
   have mm0 : w11.cell? ⟨w.heap.size + 1, 0, none⟩ = some (.int .i64 fr) := HM9.out.cell 0
   have S5 := row_store5 HFO9a.out.peers.row i hlt (.int .i64 pl) (.int .i64 0) (.int .i64 pt) (.string ⟨#[]⟩)
   obtain ⟨t0, u0, t1, u1, t2, u2, t3, u3, t4, u4⟩ := S5
   have FO9 := fetch_setP (i := i) (p := (⟨pl, 0, pt, ⟨#[]⟩, nn⟩ : Pr)) (v := (.slice au nn.length cu)) HFO9a.out hlt (ownsRow_base2 HU.out (by omega)) (fun j hj hji b e e2 => by have h1 := HLT.out b (.inr (.inr (.inr ⟨j, hj, e⟩))); have h2 := HUL.out b e2; omega) (fun b e e2 => by have h1 := HLT.out b (.inr (.inl e)); have h2 := HUL.out b e2; omega)
   have GP := grown_setP w11 gq (i * 5) (⟨pl, 0, pt, ⟨#[]⟩, nn⟩ : Pr) (.slice au nn.length cu)
   have XP := HX9.out.kept GP (fun e => row_off_blk HFO9a.out.peers.row HX9.out (by decide) e.symm)
   have RP := HR9.out.kept GP (fun e => row_off_blk HFO9a.out.peers.row HR9.out (by decide) e.symm)
   have hgb := (HFO9a.out.peers.row.lt gq rfl).1
   have hsW := HB9.out.size
   have BP := HB9.out.grown GP (by omega) (fun g e => by cases e; omega)
   obtain ⟨wz, hwz⟩ : ∃ x, x = (((((w11.setCell ⟨gq, i * 5, none⟩ (.int .i64 pl)).setCell ⟨gq, i * 5 + 1, none⟩ (.int .i64 0)).setCell ⟨gq, i * 5 + 2, none⟩ (.int .i64 pt)).setCell ⟨gq, i * 5 + 3, none⟩ (.string ⟨#[]⟩)).setCell ⟨gq, i * 5 + 4, none⟩ (.slice au nn.length cu)) := ⟨_, rfl⟩
   rw [show setP w11 gq (i * 5) (⟨pl, 0, pt, ⟨#[]⟩, nn⟩ : Pr) (.slice au nn.length cu) = wz from hwz.symm] at FO9 XP RP BP GP
   have hlz : (qs1.set i ((⟨pl, 0, pt, ⟨#[]⟩, nn⟩ : Pr), (.slice au nn.length cu))).length = qs1.length := List.length_set
   rw [hlz] at FO9
   have HFO9 := hid FO9
   have HXP := hid XP
   have HRP := hid RP
   have HBP := hid BP
   clear FO9 XP RP BP GP hgb hlz
   go_upto_region 16 with fail
   rw [← hwz]
   clear hwz p0' p1' p2' p3' p4' z7' mm0 t0 t1 t2 t3 t4 u0 u1 u2 u3 u4
   have HF : Hid (TakeR nm now full wd room its ts (qs0.map Prod.fst) fr 0 sum false text nm now full wd room its ts ((qs1.set i ((⟨pl, 0, pt, ⟨#[]⟩, nn⟩ : Pr), .slice au nn.length cu)).map Prod.fst)) := hid (.inr ⟨HVAL.out, rfl, rfl, rfl, rfl, rfl, .inr (.inl ⟨HASK.out, rfl, rfl, rfl, by rw [HPA.out, List.map_set, ← HPS.out, ← HII.out]; simp [noteP, HNA.out]⟩)⟩)
   have c0' : wz.cell? ⟨w5.heap.size, 0, none⟩ = some (.string nm) := HXP.out.cell 0
   have c1' : wz.cell? ⟨w5.heap.size, 1, none⟩ = some (.int .i64 now) := HXP.out.cell 1
   have c2' : wz.cell? ⟨w5.heap.size, 2, none⟩ = some (.bool full) := HXP.out.cell 2
   have c3' : wz.cell? ⟨w5.heap.size, 3, none⟩ = some (.int .i64 wd) := HXP.out.cell 3
   have c4' : wz.cell? ⟨w5.heap.size, 4, none⟩ = some (.int .i64 room) := HXP.out.cell 4
   have c5' : wz.cell? ⟨w5.heap.size, 5, none⟩ = some (.slice a1 its.length c1) := HXP.out.cell 5
   have c6' : wz.cell? ⟨w5.heap.size, 6, none⟩ = some (.slice b1 ts.length d1) := HXP.out.cell 6
   have c7' : wz.cell? ⟨w5.heap.size, 7, none⟩ = some (.slice (some ⟨gq, 0, none⟩) qs1.length g1) := HXP.out.cell 7
   have s := HRP.out.store8 (.string nm) (.int .i64 now) (.bool full) (.int .i64 wd) (.int .i64 room) (.slice a1 its.length c1) (.slice b1 ts.length d1) (.slice (some ⟨gq, 0, none⟩) qs1.length g1)
   obtain ⟨q0, k0, q1, k1, q2, k2, q3, k3, q4, k4, q5, k5, q6, k6, q7, k7⟩ := s
   have HZ := hid (HRP.out.set8 (.string nm) (.int .i64 now) (.bool full) (.int .i64 wd) (.int .i64 room) (.slice a1 its.length c1) (.slice b1 ts.length d1) (.slice (some ⟨gq, 0, none⟩) qs1.length g1))
   have BB := hid (below_set8 HBP.out (b := w.heap.size + 1 + 1) (by omega) (Nat.le_refl _) (.string nm) (.int .i64 now) (.bool full) (.int .i64 wd) (.int .i64 room) (.slice a1 its.length c1) (.slice b1 ts.length d1) (.slice (some ⟨gq, 0, none⟩) qs1.length g1))
   have FOR := hid ((HFO9.out.kept (grown_set8 wz (w.heap.size + 1 + 1) (.string nm) (.int .i64 now) (.bool full) (.int .i64 wd) (.int .i64 room) (.slice a1 its.length c1) (.slice b1 ts.length d1) (.slice (some ⟨gq, 0, none⟩) qs1.length g1)) (by omega)).base (show w.heap.size + 3 ≤ w4.heap.size by omega))
   go_wp2
   rw [set8_def]
   exact bodyPost_ret (v := fval nm now full wd room (.slice a1 its.length c1) (.slice b1 ts.length d1) (.slice (some ⟨gq, 0, none⟩) qs1.length g1)) (by simp [results, Tryz.results16, go_sem, HZ.out.cell]) rfl (by unfold TakeP; exact ⟨nm, now, full, wd, room, its, ts, (qs1.set i ((⟨pl, 0, pt, ⟨#[]⟩, nn⟩ : Pr), (.slice au nn.length cu))), _, _, _, rfl, HF.out, FOR.out, BB.out⟩)
  ·have hgi : ¬ (((addT sum pn).length : Nat) : Int) ≤ 376 := by omega
   have HNA : Hid (notsA sum pn = pn) := hid (by rw [notsA, if_neg hgt])
   have HX9 := hid (HX8.out.below HB9'.out)
   have HM9 := hid (HM8.out.below HB9'.out)
   have HR9 := hid (HR8.out.below HB9'.out)
   have HP9 := hid (HP8.out.below HB9'.out)
   have HFO9a := hid (HFO8.out.below HB9'.out)
   have HB9 := hid (HB8.out.trans (HB9'.out.mono HB8.out.size))
   go_upto_region 15 with fail
   have p0' : w9.cell? ⟨w6.heap.size, 0, none⟩ = some (.int .i64 pl) := HP9.out.cell 0
   have p1' : w9.cell? ⟨w6.heap.size, 1, none⟩ = some (.int .i64 0) := HP9.out.cell 1
   have p2' : w9.cell? ⟨w6.heap.size, 2, none⟩ = some (.int .i64 pt) := HP9.out.cell 2
   have p3' : w9.cell? ⟨w6.heap.size, 3, none⟩ = some (.string ⟨#[]⟩) := HP9.out.cell 3
   have p4' : w9.cell? ⟨w6.heap.size, 4, none⟩ = some (.slice an pn.length cn) := HP9.out.cell 4
   have z7' : w9.cell? ⟨w5.heap.size, 7, none⟩ = some (.slice (some ⟨gq, 0, none⟩) qs1.length g1) := HX9.out.cell 7
   have mm0 : w9.cell? ⟨w.heap.size + 1, 0, none⟩ = some (.int .i64 fr) := HM9.out.cell 0
   have S5 := row_store5 HFO9a.out.peers.row i hlt (.int .i64 pl) (.int .i64 0) (.int .i64 pt) (.string ⟨#[]⟩)
   obtain ⟨t0, u0, t1, u1, t2, u2, t3, u3, t4, u4⟩ := S5
   have FO9 := fetch_setP (i := i) (p := (⟨pl, 0, pt, ⟨#[]⟩, pn⟩ : Pr)) (v := (.slice an pn.length cn)) HFO9a.out hlt (by have h := HFO9a.out.peers.nots i hlt; rw [HV1.out, HP1.out] at h; exact h) (fun j hj hji b e e2 => HFO9a.out.peers.apart2 j i hj hlt hji b e (by rw [HV1.out]; exact e2)) (fun b e e2 => HFO9a.out.apartP b e (.inr ⟨i, hlt, by rw [HV1.out]; exact e2⟩))
   have GP := grown_setP w9 gq (i * 5) (⟨pl, 0, pt, ⟨#[]⟩, pn⟩ : Pr) (.slice an pn.length cn)
   have XP := HX9.out.kept GP (fun e => row_off_blk HFO9a.out.peers.row HX9.out (by decide) e.symm)
   have RP := HR9.out.kept GP (fun e => row_off_blk HFO9a.out.peers.row HR9.out (by decide) e.symm)
   have hgb := (HFO9a.out.peers.row.lt gq rfl).1
   have hsW := HB9.out.size
   have BP := HB9.out.grown GP (by omega) (fun g e => by cases e; omega)
   obtain ⟨wz, hwz⟩ : ∃ x, x = (((((w9.setCell ⟨gq, i * 5, none⟩ (.int .i64 pl)).setCell ⟨gq, i * 5 + 1, none⟩ (.int .i64 0)).setCell ⟨gq, i * 5 + 2, none⟩ (.int .i64 pt)).setCell ⟨gq, i * 5 + 3, none⟩ (.string ⟨#[]⟩)).setCell ⟨gq, i * 5 + 4, none⟩ (.slice an pn.length cn)) := ⟨_, rfl⟩
   rw [show setP w9 gq (i * 5) (⟨pl, 0, pt, ⟨#[]⟩, pn⟩ : Pr) (.slice an pn.length cn) = wz from hwz.symm] at FO9 XP RP BP GP
   have hlz : (qs1.set i ((⟨pl, 0, pt, ⟨#[]⟩, pn⟩ : Pr), (.slice an pn.length cn))).length = qs1.length := List.length_set
   rw [hlz] at FO9
   have HFO9 := hid FO9
   have HXP := hid XP
   have HRP := hid RP
   have HBP := hid BP
   clear FO9 XP RP BP GP hgb hlz
   go_upto_region 16 with fail
   rw [← hwz]
   clear hwz p0' p1' p2' p3' p4' z7' mm0 t0 t1 t2 t3 t4 u0 u1 u2 u3 u4
   have HF : Hid (TakeR nm now full wd room its ts (qs0.map Prod.fst) fr 0 sum false text nm now full wd room its ts ((qs1.set i ((⟨pl, 0, pt, ⟨#[]⟩, pn⟩ : Pr), .slice an pn.length cn)).map Prod.fst)) := hid (.inr ⟨HVAL.out, rfl, rfl, rfl, rfl, rfl, .inr (.inl ⟨HASK.out, rfl, rfl, rfl, by rw [HPA.out, List.map_set, ← HPS.out, ← HII.out]; simp [noteP, HNA.out]⟩)⟩)
   have c0' : wz.cell? ⟨w5.heap.size, 0, none⟩ = some (.string nm) := HXP.out.cell 0
   have c1' : wz.cell? ⟨w5.heap.size, 1, none⟩ = some (.int .i64 now) := HXP.out.cell 1
   have c2' : wz.cell? ⟨w5.heap.size, 2, none⟩ = some (.bool full) := HXP.out.cell 2
   have c3' : wz.cell? ⟨w5.heap.size, 3, none⟩ = some (.int .i64 wd) := HXP.out.cell 3
   have c4' : wz.cell? ⟨w5.heap.size, 4, none⟩ = some (.int .i64 room) := HXP.out.cell 4
   have c5' : wz.cell? ⟨w5.heap.size, 5, none⟩ = some (.slice a1 its.length c1) := HXP.out.cell 5
   have c6' : wz.cell? ⟨w5.heap.size, 6, none⟩ = some (.slice b1 ts.length d1) := HXP.out.cell 6
   have c7' : wz.cell? ⟨w5.heap.size, 7, none⟩ = some (.slice (some ⟨gq, 0, none⟩) qs1.length g1) := HXP.out.cell 7
   have s := HRP.out.store8 (.string nm) (.int .i64 now) (.bool full) (.int .i64 wd) (.int .i64 room) (.slice a1 its.length c1) (.slice b1 ts.length d1) (.slice (some ⟨gq, 0, none⟩) qs1.length g1)
   obtain ⟨q0, k0, q1, k1, q2, k2, q3, k3, q4, k4, q5, k5, q6, k6, q7, k7⟩ := s
   have HZ := hid (HRP.out.set8 (.string nm) (.int .i64 now) (.bool full) (.int .i64 wd) (.int .i64 room) (.slice a1 its.length c1) (.slice b1 ts.length d1) (.slice (some ⟨gq, 0, none⟩) qs1.length g1))
   have BB := hid (below_set8 HBP.out (b := w.heap.size + 1 + 1) (by omega) (Nat.le_refl _) (.string nm) (.int .i64 now) (.bool full) (.int .i64 wd) (.int .i64 room) (.slice a1 its.length c1) (.slice b1 ts.length d1) (.slice (some ⟨gq, 0, none⟩) qs1.length g1))
   have FOR := hid ((HFO9.out.kept (grown_set8 wz (w.heap.size + 1 + 1) (.string nm) (.int .i64 now) (.bool full) (.int .i64 wd) (.int .i64 room) (.slice a1 its.length c1) (.slice b1 ts.length d1) (.slice (some ⟨gq, 0, none⟩) qs1.length g1)) (by omega)).base (show w.heap.size + 3 ≤ w4.heap.size by omega))
   go_wp2
   rw [set8_def]
   exact bodyPost_ret (v := fval nm now full wd room (.slice a1 its.length c1) (.slice b1 ts.length d1) (.slice (some ⟨gq, 0, none⟩) qs1.length g1)) (by simp [results, Tryz.results16, go_sem, HZ.out.cell]) rfl (by unfold TakeP; exact ⟨nm, now, full, wd, room, its, ts, (qs1.set i ((⟨pl, 0, pt, ⟨#[]⟩, pn⟩ : Pr), (.slice an pn.length cn))), _, _, _, rfl, HF.out, FOR.out, BB.out⟩)
 | true =>
  have n4 : w8.cell? ⟨w.heap.size + 1, 4, none⟩ = some (.string text) := HM8.out.cell 4
  have k3 : w8.cell? ⟨w.heap.size, 3, none⟩ = some (.int .i64 wd) := HN8.out.cell 3
  have HRL := hid (specReadList_any text wd w8 (by unfold maxLen; omega))
  go_wp2_with fail
  refine HRL.out.mono ?_
  rintro e w9 ⟨v9, n9, ss9, ok, rfl, hr9, ho9, hb9⟩
  obtain ⟨a9, c9, rfl, _⟩ := row_form ho9
  have HFM := hid hr9.form
  have D10 : Below w8.heap.size w8 (w9.alloc (.cells #[.int .i64 n9, .slice a9 ss9.length c9] 78)) := hb9.alloc hb9.size _
  obtain ⟨w10, hw10⟩ : ∃ x, x = w9.alloc (.cells #[.int .i64 n9, .slice a9 ss9.length c9] 78) := ⟨_, rfl⟩
  rw [← hw10] at D10
  have hs10 := D10.size
  have HX10 := hid (HX8.out.below D10)
  have HM10 := hid (HM8.out.below D10)
  have HD10 := hid D10
  have HFO10 := hid (HFO8.out.below D10)
  clear hr9 ho9 hb9 D10 n3 n4 k3
  go_upto_region 18 with fail
  rw [← hw10]
  clear hw10
  have y1 : w10.cell? ⟨w5.heap.size, 1, none⟩ = some (.int .i64 now) := HX10.out.cell 1
  have y3 : w10.cell? ⟨w5.heap.size, 3, none⟩ = some (.int .i64 wd) := HX10.out.cell 3
  have y4 : w10.cell? ⟨w5.heap.size, 4, none⟩ = some (.int .i64 room) := HX10.out.cell 4
  have y5 : w10.cell? ⟨w5.heap.size, 5, none⟩ = some (.slice a1 its.length c1) := HX10.out.cell 5
  have y6 : w10.cell? ⟨w5.heap.size, 6, none⟩ = some (.slice b1 ts.length d1) := HX10.out.cell 6
  have n4 : w10.cell? ⟨w.heap.size + 1, 4, none⟩ = some (.string text) := HM10.out.cell 4
  have HPT := hid (specPut_any wd room (.slice a1 its.length c1) (.slice b1 ts.length d1) its ts text now w10 _ _ HFO10.out.store.items HFO10.out.store.pins hli hlp HSI.out HSP.out htx)
  go_wp2_with fail
  refine HPT.out.mono ?_
  rintro e w11 ⟨wd2, room2, its2, ts2, code, vi2, vp2, rfl, hput, so2, hb11⟩
  obtain ⟨a2, c2, rfl⟩ := row_any so2.items
  obtain ⟨b2, d2, rfl⟩ := row_any so2.pins
  have HPUT := hid hput
  have D12 : Below w10.heap.size w10 (w11.alloc (.cells #[.int .i64 wd2, .int .i64 room2, .slice a2 its2.length c2, .slice b2 ts2.length d2] 32)) := hb11.alloc hb11.size _
  have S12 := Blk.new w11 32 #[.int .i64 wd2, .int .i64 room2, .slice a2 its2.length c2, .slice b2 ts2.length d2]
  have SO12 : StoreOwn (w11.alloc (.cells #[.int .i64 wd2, .int .i64 room2, .slice a2 its2.length c2, .slice b2 ts2.length d2] 32)) (w10.heap.size + 2) (.slice a2 its2.length c2) (.slice b2 ts2.length d2) its2 ts2 := ⟨so2.items.alloc _, so2.pins.alloc _, so2.apart⟩
  obtain ⟨w12, hw12⟩ : ∃ x, x = w11.alloc (.cells #[.int .i64 wd2, .int .i64 room2, .slice a2 its2.length c2, .slice b2 ts2.length d2] 32) := ⟨_, rfl⟩
  rw [← hw12] at D12 S12 SO12
  have HD12 := hid (HD10.out.trans (D12.mono hs10))
  have hs11 := hb11.size
  have hs12 := D12.size
  have hsl := S12.lt
  have HS12 := hid S12
  have HSO12 := hid SO12
  have HX12 := hid (HX8.out.below HD12.out)
  have HN12 := hid (HN8.out.below HD12.out)
  have HM12 := hid (HM8.out.below HD12.out)
  have HR12 := hid (HR8.out.below HD12.out)
  have HP12 := hid (HP8.out.below HD12.out)
  have HFO12 := hid (HFO8.out.below HD12.out)
  have HB12 := hid (HB8.out.trans (HD12.out.mono HB8.out.size))
  have HSU : Hid (Calls Tryz.prog 43 #[.string text, .int .i64 wd] w12.drew fun e w' => e = .returned (.string (sumX wd text)) ∧ Below w12.drew.heap.size w12.drew w') := hid (specSum_any text wd w12.drew (by unfold maxLen; omega))
  have HSF := hid fun (W : World) (h : Below w12.heap.size w12 W) => (show W.cell? ⟨w.heap.size + 1, 4, none⟩ = some (.string text) ∧ W.cell? ⟨w.heap.size, 3, none⟩ = some (.int .i64 wd) ∧ W.cell? ⟨w.heap.size + 1, 2, none⟩ = some (.string sum) ∧ W.cell? ⟨w.heap.size, 0, none⟩ = some (.string nm) from by
   have X := HM12.out.below h
   have Y := HN12.out.below h
   exact ⟨X.cell 4, Y.cell 3, X.cell 2, Y.cell 0⟩)
  have hS0 := HSF.out w12.drew (below_drewN (Below.refl _ _) 1)
  have hec := enters_of Tryz.func43 (by kernel_rfl) rfl
  clear y1 y3 y4 y5 y6 n4 hput so2 hb11 D12 S12 SO12
  go_upto_region 20 with fail
  rw [← hw12]
  clear hw12
  go_cut [95] from 96 to 123 (fun s95 wx => ∃ bb : Bool, s95 = .bool bb ∧ (bb = true ↔ (BadA nm wd sum text ∨ code = 1 ∨ code = 2)) ∧ Below w12.heap.size w12 wx)
  case first =>
   refine wp_region_held (S := fun w' => w'.cell? ⟨w.heap.size + 1, 4, none⟩ = some (.string text) ∧ w'.cell? ⟨w.heap.size, 3, none⟩ = some (.int .i64 wd) ∧ w'.cell? ⟨w.heap.size + 1, 2, none⟩ = some (.string sum) ∧ w'.cell? ⟨w.heap.size, 0, none⟩ = some (.string nm)) (by kernel_rfl) ?_
   change wpAnyH _ _ _ _ _ _ _ _ (World.drew _)
   refine tkA 0 (.pointer (some ⟨w.heap.size + 1, 4, none⟩)) rfl hS0 ?_
   refine tkA 1 (.string text) rfl hS0 ?_
   refine tkA 2 (.pointer (some ⟨w.heap.size, 3, none⟩)) rfl hS0 ?_
   refine tkA 3 (.pointer (some ⟨w.heap.size, 3, none⟩)) rfl hS0 ?_
   refine tkA 4 (.int .i64 wd) rfl hS0 ?_
   refine tkA 6 (.pointer (some ⟨w.heap.size + 1, 2, none⟩)) rfl hS0 ?_
   refine tkA 7 (.string sum) rfl hS0 ?_
   refine held_one 5 (by kernel_rfl) (op_calls (f := 43) (args := #[.string text, .int .i64 wd]) rfl rfl (by go_simp) HSU.out ?_)
   rintro e w13 ⟨rfl, hb13⟩
   have B13 : Below w12.heap.size w12 w13 := ⟨hb13.os, hb13.tape, hb13.output, hb13.size, hb13.block⟩
   have hS1 := HSF.out w13 B13
   have HB13 := hid B13
   clear B13 hb13
   refine ⟨_, rfl, hS1, ?_⟩
   by_cases h1 : sumX wd text = sum
   ·have e1 : ((sumX wd text).toList == sum.toList) = true := by rw [h1]; simp
    have H1 := hid h1
    clear h1
    by_cases h2 : sum = nm
    ·have e2 : (sum.toList == nm.toList) = true := by rw [h2]; simp
     have H2 := hid h2
     clear h2
     cases ok with
     | false =>
      have HNF : Hid (¬ FormOk text wd) := hid fun h => by have := HFM.out.2 h; cases this
      refine tkA 8 (.bool false) rfl hS1 ?_
      refine tkA 9 (.bool false) rfl hS1 ?_
      refine tkG 10 (.pointer (some ⟨w.heap.size + 1, 2, none⟩)) rfl hS1 ?_
      refine tkG 11 (.string sum) rfl hS1 ?_
      refine tkG 12 (.pointer (some ⟨w.heap.size, 0, none⟩)) rfl hS1 ?_
      refine tkG 13 (.string nm) rfl hS1 ?_
      refine tkG 14 (.bool true) rfl hS1 ?_
      refine tkG 15 (.bool true) rfl hS1 ?_
      refine tkG 16 (.bool false) rfl hS1 ?_
      refine tkG 17 (.bool true) rfl hS1 ?_
      refine tkG 18 (.bool true) rfl hS1 ?_
      refine tkA 19 (.bool true) rfl hS1 ?_
      refine tkA 20 (.bool true) rfl hS1 ?_
      refine tkO 21 rfl hS1 ?_
      refine tkO 22 rfl hS1 ?_
      refine tkA 23 (.bool true) rfl hS1 ?_
      refine tkA 24 (.bool true) rfl hS1 ?_
      refine tkO 25 rfl hS1 ?_
      refine tkO 26 rfl hS1 ?_
      refine tkA 27 (.bool true) rfl hS1 ?_
      refine tkA 28 (.bool true) rfl hS1 ?_
      refine wpAnyH_done (by kernel_rfl) ?_ _
      clear hS1 hS0
      go_simp
      go_wp2_with fail
      go_meet
      exact ⟨true, rfl, ⟨fun _ => .inl (.inr ⟨H2.out, HNF.out⟩), fun _ => rfl⟩, HB13.out⟩
     | true =>
      have HNB : Hid (¬ BadA nm wd sum text) := hid (fun h => h.elim (fun h => h H1.out) (fun h => h.2 (HFM.out.1 rfl)))
      by_cases hc1 : code = 1
      ·have hc1' : (code == 1) = true := by simpa using hc1
       have HC1 := hid hc1
       clear hc1
       refine tkA 8 (.bool false) rfl hS1 ?_
       refine tkA 9 (.bool false) rfl hS1 ?_
       refine tkG 10 (.pointer (some ⟨w.heap.size + 1, 2, none⟩)) rfl hS1 ?_
       refine tkG 11 (.string sum) rfl hS1 ?_
       refine tkG 12 (.pointer (some ⟨w.heap.size, 0, none⟩)) rfl hS1 ?_
       refine tkG 13 (.string nm) rfl hS1 ?_
       refine tkG 14 (.bool true) rfl hS1 ?_
       refine tkG 15 (.bool true) rfl hS1 ?_
       refine tkG 16 (.bool true) rfl hS1 ?_
       refine tkG 17 (.bool false) rfl hS1 ?_
       refine tkG 18 (.bool false) rfl hS1 ?_
       refine tkA 19 (.bool false) rfl hS1 ?_
       refine tkA 20 (.bool false) rfl hS1 ?_
       refine tkG 21 (.int .i64 code) rfl hS1 ?_
       refine tkG 22 (.bool true) rfl hS1 ?_
       refine tkA 23 (.bool true) rfl hS1 ?_
       refine tkA 24 (.bool true) rfl hS1 ?_
       refine tkO 25 rfl hS1 ?_
       refine tkO 26 rfl hS1 ?_
       refine tkA 27 (.bool true) rfl hS1 ?_
       refine tkA 28 (.bool true) rfl hS1 ?_
       refine wpAnyH_done (by kernel_rfl) ?_ _
       clear hS1 hS0
       go_simp
       go_wp2_with fail
       go_meet
       exact ⟨true, rfl, ⟨fun _ => .inr (.inl HC1.out), fun _ => rfl⟩, HB13.out⟩
      ·have hc1' : (code == 1) = false := by simpa using hc1
       by_cases hc2 : code = 2
       ·have hc2' : (code == 2) = true := by simpa using hc2
        have HC2 := hid hc2
        clear hc2
        refine tkA 8 (.bool false) rfl hS1 ?_
        refine tkA 9 (.bool false) rfl hS1 ?_
        refine tkG 10 (.pointer (some ⟨w.heap.size + 1, 2, none⟩)) rfl hS1 ?_
        refine tkG 11 (.string sum) rfl hS1 ?_
        refine tkG 12 (.pointer (some ⟨w.heap.size, 0, none⟩)) rfl hS1 ?_
        refine tkG 13 (.string nm) rfl hS1 ?_
        refine tkG 14 (.bool true) rfl hS1 ?_
        refine tkG 15 (.bool true) rfl hS1 ?_
        refine tkG 16 (.bool true) rfl hS1 ?_
        refine tkG 17 (.bool false) rfl hS1 ?_
        refine tkG 18 (.bool false) rfl hS1 ?_
        refine tkA 19 (.bool false) rfl hS1 ?_
        refine tkA 20 (.bool false) rfl hS1 ?_
        refine tkG 21 (.int .i64 code) rfl hS1 ?_
        refine tkG 22 (.bool false) rfl hS1 ?_
        refine tkA 23 (.bool false) rfl hS1 ?_
        refine tkA 24 (.bool false) rfl hS1 ?_
        refine tkG 25 (.int .i64 code) rfl hS1 ?_
        refine tkG 26 (.bool true) rfl hS1 ?_
        refine tkA 27 (.bool true) rfl hS1 ?_
        refine tkA 28 (.bool true) rfl hS1 ?_
        refine wpAnyH_done (by kernel_rfl) ?_ _
        clear hS1 hS0
        go_simp
        go_wp2_with fail
        go_meet
        exact ⟨true, rfl, ⟨fun _ => .inr (.inr HC2.out), fun _ => rfl⟩, HB13.out⟩
       ·have hc2' : (code == 2) = false := by simpa using hc2
        refine tkA 8 (.bool false) rfl hS1 ?_
        refine tkA 9 (.bool false) rfl hS1 ?_
        refine tkG 10 (.pointer (some ⟨w.heap.size + 1, 2, none⟩)) rfl hS1 ?_
        refine tkG 11 (.string sum) rfl hS1 ?_
        refine tkG 12 (.pointer (some ⟨w.heap.size, 0, none⟩)) rfl hS1 ?_
        refine tkG 13 (.string nm) rfl hS1 ?_
        refine tkG 14 (.bool true) rfl hS1 ?_
        refine tkG 15 (.bool true) rfl hS1 ?_
        refine tkG 16 (.bool true) rfl hS1 ?_
        refine tkG 17 (.bool false) rfl hS1 ?_
        refine tkG 18 (.bool false) rfl hS1 ?_
        refine tkA 19 (.bool false) rfl hS1 ?_
        refine tkA 20 (.bool false) rfl hS1 ?_
        refine tkG 21 (.int .i64 code) rfl hS1 ?_
        refine tkG 22 (.bool false) rfl hS1 ?_
        refine tkA 23 (.bool false) rfl hS1 ?_
        refine tkA 24 (.bool false) rfl hS1 ?_
        refine tkG 25 (.int .i64 code) rfl hS1 ?_
        refine tkG 26 (.bool false) rfl hS1 ?_
        refine tkA 27 (.bool false) rfl hS1 ?_
        refine tkA 28 (.bool false) rfl hS1 ?_
        refine wpAnyH_done (by kernel_rfl) ?_ _
        clear hS1 hS0
        go_simp
        go_wp2_with fail
        go_meet
        exact ⟨false, rfl, ⟨fun h => (by cases h), fun h => h.elim (fun h => absurd h HNB.out) (fun h => h.elim (fun h => absurd h hc1) (fun h => absurd h hc2))⟩, HB13.out⟩
    ·have e2 : (sum.toList == nm.toList) = false := by
      cases e : (sum.toList == nm.toList) with
      | false => rfl
      | true => exact absurd (text_eq (by simpa using e)) h2
     have H2 := hid h2
     clear h2
     have HNB : Hid (¬ BadA nm wd sum text) := hid (fun h => h.elim (fun h => h H1.out) (fun h => H2.out h.1))
     by_cases hc1 : code = 1
     ·have hc1' : (code == 1) = true := by simpa using hc1
      have HC1 := hid hc1
      clear hc1
      refine tkA 8 (.bool false) rfl hS1 ?_
      refine tkA 9 (.bool false) rfl hS1 ?_
      refine tkG 10 (.pointer (some ⟨w.heap.size + 1, 2, none⟩)) rfl hS1 ?_
      refine tkG 11 (.string sum) rfl hS1 ?_
      refine tkG 12 (.pointer (some ⟨w.heap.size, 0, none⟩)) rfl hS1 ?_
      refine tkG 13 (.string nm) rfl hS1 ?_
      refine tkG 14 (.bool false) rfl hS1 ?_
      refine tkG 15 (.bool false) rfl hS1 ?_
      refine tkO 16 rfl hS1 ?_
      refine tkO 17 rfl hS1 ?_
      refine tkG 18 (.bool false) rfl hS1 ?_
      refine tkA 19 (.bool false) rfl hS1 ?_
      refine tkA 20 (.bool false) rfl hS1 ?_
      refine tkG 21 (.int .i64 code) rfl hS1 ?_
      refine tkG 22 (.bool true) rfl hS1 ?_
      refine tkA 23 (.bool true) rfl hS1 ?_
      refine tkA 24 (.bool true) rfl hS1 ?_
      refine tkO 25 rfl hS1 ?_
      refine tkO 26 rfl hS1 ?_
      refine tkA 27 (.bool true) rfl hS1 ?_
      refine tkA 28 (.bool true) rfl hS1 ?_
      refine wpAnyH_done (by kernel_rfl) ?_ _
      clear hS1 hS0
      go_simp
      go_wp2_with fail
      go_meet
      exact ⟨true, rfl, ⟨fun _ => .inr (.inl HC1.out), fun _ => rfl⟩, HB13.out⟩
     ·have hc1' : (code == 1) = false := by simpa using hc1
      by_cases hc2 : code = 2
      ·have hc2' : (code == 2) = true := by simpa using hc2
       have HC2 := hid hc2
       clear hc2
       refine tkA 8 (.bool false) rfl hS1 ?_
       refine tkA 9 (.bool false) rfl hS1 ?_
       refine tkG 10 (.pointer (some ⟨w.heap.size + 1, 2, none⟩)) rfl hS1 ?_
       refine tkG 11 (.string sum) rfl hS1 ?_
       refine tkG 12 (.pointer (some ⟨w.heap.size, 0, none⟩)) rfl hS1 ?_
       refine tkG 13 (.string nm) rfl hS1 ?_
       refine tkG 14 (.bool false) rfl hS1 ?_
       refine tkG 15 (.bool false) rfl hS1 ?_
       refine tkO 16 rfl hS1 ?_
       refine tkO 17 rfl hS1 ?_
       refine tkG 18 (.bool false) rfl hS1 ?_
       refine tkA 19 (.bool false) rfl hS1 ?_
       refine tkA 20 (.bool false) rfl hS1 ?_
       refine tkG 21 (.int .i64 code) rfl hS1 ?_
       refine tkG 22 (.bool false) rfl hS1 ?_
       refine tkA 23 (.bool false) rfl hS1 ?_
       refine tkA 24 (.bool false) rfl hS1 ?_
       refine tkG 25 (.int .i64 code) rfl hS1 ?_
       refine tkG 26 (.bool true) rfl hS1 ?_
       refine tkA 27 (.bool true) rfl hS1 ?_
       refine tkA 28 (.bool true) rfl hS1 ?_
       refine wpAnyH_done (by kernel_rfl) ?_ _
       clear hS1 hS0
       go_simp
       go_wp2_with fail
       go_meet
       exact ⟨true, rfl, ⟨fun _ => .inr (.inr HC2.out), fun _ => rfl⟩, HB13.out⟩
      ·have hc2' : (code == 2) = false := by simpa using hc2
       refine tkA 8 (.bool false) rfl hS1 ?_
       refine tkA 9 (.bool false) rfl hS1 ?_
       refine tkG 10 (.pointer (some ⟨w.heap.size + 1, 2, none⟩)) rfl hS1 ?_
       refine tkG 11 (.string sum) rfl hS1 ?_
       refine tkG 12 (.pointer (some ⟨w.heap.size, 0, none⟩)) rfl hS1 ?_
       refine tkG 13 (.string nm) rfl hS1 ?_
       refine tkG 14 (.bool false) rfl hS1 ?_
       refine tkG 15 (.bool false) rfl hS1 ?_
       refine tkO 16 rfl hS1 ?_
       refine tkO 17 rfl hS1 ?_
       refine tkG 18 (.bool false) rfl hS1 ?_
       refine tkA 19 (.bool false) rfl hS1 ?_
       refine tkA 20 (.bool false) rfl hS1 ?_
       refine tkG 21 (.int .i64 code) rfl hS1 ?_
       refine tkG 22 (.bool false) rfl hS1 ?_
       refine tkA 23 (.bool false) rfl hS1 ?_
       refine tkA 24 (.bool false) rfl hS1 ?_
       refine tkG 25 (.int .i64 code) rfl hS1 ?_
       refine tkG 26 (.bool false) rfl hS1 ?_
       refine tkA 27 (.bool false) rfl hS1 ?_
       refine tkA 28 (.bool false) rfl hS1 ?_
       refine wpAnyH_done (by kernel_rfl) ?_ _
       clear hS1 hS0
       go_simp
       go_wp2_with fail
       go_meet
       exact ⟨false, rfl, ⟨fun h => (by cases h), fun h => h.elim (fun h => absurd h HNB.out) (fun h => h.elim (fun h => absurd h hc1) (fun h => absurd h hc2))⟩, HB13.out⟩
   ·have e1 : ((sumX wd text).toList == sum.toList) = false := by
     cases e : ((sumX wd text).toList == sum.toList) with
     | false => rfl
     | true => exact absurd (text_eq (by simpa using e)) h1
    have H1 := hid h1
    clear h1
    refine tkA 8 (.bool true) rfl hS1 ?_
    refine tkA 9 (.bool true) rfl hS1 ?_
    refine tkO 10 rfl hS1 ?_
    refine tkO 11 rfl hS1 ?_
    refine tkO 12 rfl hS1 ?_
    refine tkO 13 rfl hS1 ?_
    refine tkO 14 rfl hS1 ?_
    refine tkO 15 rfl hS1 ?_
    refine tkO 16 rfl hS1 ?_
    refine tkO 17 rfl hS1 ?_
    refine tkO 18 rfl hS1 ?_
    refine tkA 19 (.bool true) rfl hS1 ?_
    refine tkA 20 (.bool true) rfl hS1 ?_
    refine tkO 21 rfl hS1 ?_
    refine tkO 22 rfl hS1 ?_
    refine tkA 23 (.bool true) rfl hS1 ?_
    refine tkA 24 (.bool true) rfl hS1 ?_
    refine tkO 25 rfl hS1 ?_
    refine tkO 26 rfl hS1 ?_
    refine tkA 27 (.bool true) rfl hS1 ?_
    refine tkA 28 (.bool true) rfl hS1 ?_
    refine wpAnyH_done (by kernel_rfl) ?_ _
    clear hS1 hS0
    go_simp
    go_wp2_with fail
    go_meet
    exact ⟨true, rfl, ⟨fun _ => .inl (.inl H1.out), fun _ => rfl⟩, HB13.out⟩
  case rest =>
   obtain ⟨w13, hw13⟩ : ∃ x, x = wc := ⟨_, rfl⟩
   subst hw13
   obtain ⟨bb, rfl, hbb, hb13⟩ := hcut
   have HX13 := hid (HX12.out.below hb13)
   have HM13 := hid (HM12.out.below hb13)
   have HR13 := hid (HR12.out.below hb13)
   have HP13 := hid (HP12.out.below hb13)
   have HFO13 := hid (HFO12.out.below hb13)
   have HB13 := hid (HB12.out.trans (hb13.mono HB12.out.size))
   have HS13 := hid (HS12.out.below hb13)
   have HSO13 := hid (HSO12.out.below hb13)
   have hs13 := hb13.size
   clear hb13 hS0
   cases bb with
   | true =>
    obtain ⟨kc, hkc, hkr⟩ : ∃ c, (c = 1 ∨ c = 2) ∧ KeepR nm wd room its ts now sum text c its := by
     by_cases hB : BadA nm wd sum text
     ·exact ⟨1, .inl rfl, .inl ⟨hB, rfl, rfl⟩⟩
     ·have hc : code = 1 ∨ code = 2 := (hbb.1 rfl).elim (fun h => absurd h hB) id
      rcases HPUT.out.keep HVAL.out.store hB with ⟨_, hk⟩ | ⟨h0, _⟩
      ·exact ⟨code, hc, hk⟩
      ·rw [h0] at hc; rcases hc with h | h <;> cases h
    have HKR := hid hkr
    clear hkr hbb
    have hpw1 : IntKind.i64.wrap (pl + 1) = pl + 1 := by rw [IntKind.wrap_i64]; omega
    have G14 := grownBy_setCellAt w13 w6.heap.size 0 (.int .i64 (pl + 1))
    have P14 : Blk (w13.setCell ⟨w6.heap.size, 0, none⟩ (.int .i64 (pl + 1))) w6.heap.size 57 #[.int .i64 (pl + 1), .int .i64 0, .int .i64 pt, .string ⟨#[]⟩, .slice an pn.length cn] := HP13.out.set 0 (.int .i64 (pl + 1))
    have X14 := HX13.out.kept G14 (fun e => by have := Option.some.inj e; omega)
    have M14 := HM13.out.kept G14 (fun e => by have := Option.some.inj e; omega)
    have R14 := HR13.out.kept G14 (fun e => by have := Option.some.inj e; omega)
    have FO14 := HFO13.out.same (w' := w13.setCell ⟨w6.heap.size, 0, none⟩ (.int .i64 (pl + 1))) (fun b hb => G14.block b (HFO13.out.lt b hb).2 (fun e => by have := HLT.out b hb; have := Option.some.inj e; omega))
    have hsB := HB13.out.size
    have B14 := HB13.out.grown G14 (by omega) (fun g e => by cases e; omega)
    have q0' : w13.cell? ⟨w6.heap.size, 0, none⟩ = some (.int .i64 pl) := HP13.out.cell 0
    have r0' := HP13.out.fz 0
    obtain ⟨w14, hw14⟩ : ∃ x, x = w13.setCell ⟨w6.heap.size, 0, none⟩ (.int .i64 (pl + 1)) := ⟨_, rfl⟩
    rw [← hw14] at P14 X14 M14 R14 FO14 B14
    have HX14 := hid X14
    have HM14 := hid M14
    have HR14 := hid R14
    have HP14 := hid P14
    have HFO14 := hid FO14
    have HB14 := hid B14
    clear G14 P14 X14 M14 R14 FO14 B14 hsB
    go_upto_region 24 with fail
    rw [← hw14]
    clear hw14 q0' r0'
    have q0 : w14.cell? ⟨w6.heap.size, 0, none⟩ = some (.int .i64 (pl + 1)) := HP14.out.cell 0
    by_cases hl3 : pl + 1 > 3
    ·have hl3' : (3 : Int) < pl + 1 := hl3
     have G15 := grownBy_setCellAt w14 w6.heap.size 0 (.int .i64 3)
     have P15 : Blk (w14.setCell ⟨w6.heap.size, 0, none⟩ (.int .i64 3)) w6.heap.size 57 #[.int .i64 3, .int .i64 0, .int .i64 pt, .string ⟨#[]⟩, .slice an pn.length cn] := HP14.out.set 0 (.int .i64 3)
     have X15 := HX14.out.kept G15 (fun e => by have := Option.some.inj e; omega)
     have M15 := HM14.out.kept G15 (fun e => by have := Option.some.inj e; omega)
     have R15 := HR14.out.kept G15 (fun e => by have := Option.some.inj e; omega)
     have FO15 := HFO14.out.same (w' := w14.setCell ⟨w6.heap.size, 0, none⟩ (.int .i64 3)) (fun b hb => G15.block b (HFO14.out.lt b hb).2 (fun e => by have := HLT.out b hb; have := Option.some.inj e; omega))
     have hsB := HB14.out.size
     have B15 := HB14.out.grown G15 (by omega) (fun g e => by cases e; omega)
     have q0' : w14.cell? ⟨w6.heap.size, 0, none⟩ = some (.int .i64 (pl + 1)) := HP14.out.cell 0
     have r0' := HP14.out.fz 0
     obtain ⟨w15, hw15⟩ : ∃ x, x = w14.setCell ⟨w6.heap.size, 0, none⟩ (.int .i64 3) := ⟨_, rfl⟩
     rw [← hw15] at P15 X15 M15 R15 FO15 B15
     have HX15 := hid X15
     have HM15 := hid M15
     have HR15 := hid R15
     have HP15 := hid P15
     have HFO15 := hid FO15
     have HB15 := hid B15
     clear G15 P15 X15 M15 R15 FO15 B15 hsB
     go_upto_region 26 with fail
     rw [← hw15]
     clear hw15 q0' r0'
     have p0' : w15.cell? ⟨w6.heap.size, 0, none⟩ = some (.int .i64 3) := HP15.out.cell 0
     have p1' : w15.cell? ⟨w6.heap.size, 1, none⟩ = some (.int .i64 0) := HP15.out.cell 1
     have p2' : w15.cell? ⟨w6.heap.size, 2, none⟩ = some (.int .i64 pt) := HP15.out.cell 2
     have p3' : w15.cell? ⟨w6.heap.size, 3, none⟩ = some (.string ⟨#[]⟩) := HP15.out.cell 3
     have p4' : w15.cell? ⟨w6.heap.size, 4, none⟩ = some (.slice an pn.length cn) := HP15.out.cell 4
     have z7' : w15.cell? ⟨w5.heap.size, 7, none⟩ = some (.slice (some ⟨gq, 0, none⟩) qs1.length g1) := HX15.out.cell 7
     have mm0 : w15.cell? ⟨w.heap.size + 1, 0, none⟩ = some (.int .i64 fr) := HM15.out.cell 0
     have S5 := row_store5 HFO15.out.peers.row i hlt (.int .i64 3) (.int .i64 0) (.int .i64 pt) (.string ⟨#[]⟩)
     obtain ⟨t0, u0, t1, u1, t2, u2, t3, u3, t4, u4⟩ := S5
     have FO9 := fetch_setP (i := i) (p := (⟨3, 0, pt, ⟨#[]⟩, pn⟩ : Pr)) (v := (.slice an pn.length cn)) HFO15.out hlt (by have h := HFO15.out.peers.nots i hlt; rw [HV1.out, HP1.out] at h; exact h) (fun j hj hji b e e2 => HFO15.out.peers.apart2 j i hj hlt hji b e (by rw [HV1.out]; exact e2)) (fun b e e2 => HFO15.out.apartP b e (.inr ⟨i, hlt, by rw [HV1.out]; exact e2⟩))
     have GP := grown_setP w15 gq (i * 5) (⟨3, 0, pt, ⟨#[]⟩, pn⟩ : Pr) (.slice an pn.length cn)
     have XP := HX15.out.kept GP (fun e => row_off_blk HFO15.out.peers.row HX15.out (by decide) e.symm)
     have RP := HR15.out.kept GP (fun e => row_off_blk HFO15.out.peers.row HR15.out (by decide) e.symm)
     have hgb := (HFO15.out.peers.row.lt gq rfl).1
     have hsW := HB15.out.size
     have BP := HB15.out.grown GP (by omega) (fun g e => by cases e; omega)
     obtain ⟨wz, hwz⟩ : ∃ x, x = (((((w15.setCell ⟨gq, i * 5, none⟩ (.int .i64 3)).setCell ⟨gq, i * 5 + 1, none⟩ (.int .i64 0)).setCell ⟨gq, i * 5 + 2, none⟩ (.int .i64 pt)).setCell ⟨gq, i * 5 + 3, none⟩ (.string ⟨#[]⟩)).setCell ⟨gq, i * 5 + 4, none⟩ (.slice an pn.length cn)) := ⟨_, rfl⟩
     rw [show setP w15 gq (i * 5) (⟨3, 0, pt, ⟨#[]⟩, pn⟩ : Pr) (.slice an pn.length cn) = wz from hwz.symm] at FO9 XP RP BP GP
     have hlz : (qs1.set i ((⟨3, 0, pt, ⟨#[]⟩, pn⟩ : Pr), (.slice an pn.length cn))).length = qs1.length := List.length_set
     rw [hlz] at FO9
     have HFO9 := hid FO9
     have HXP := hid XP
     have HRP := hid RP
     have HBP := hid BP
     clear FO9 XP RP BP GP hgb hlz
     go_upto_region 27 with fail
     rw [← hwz]
     clear hwz p0' p1' p2' p3' p4' z7' mm0 t0 t1 t2 t3 t4 u0 u1 u2 u3 u4
     have HF : Hid (TakeR nm now full wd room its ts (qs0.map Prod.fst) fr 0 sum true text nm now full wd room its ts ((qs1.set i ((⟨3, 0, pt, ⟨#[]⟩, pn⟩ : Pr), .slice an pn.length cn)).map Prod.fst)) := hid (.inr ⟨HVAL.out, rfl, rfl, rfl, rfl, rfl, .inr (.inr ⟨HASK.out, rfl, kc, HKR.out, by rcases hkc with rfl | rfl <;> simp, by rw [HPA.out, List.map_set, ← HPS.out, ← HII.out]; simp [codeP, lieP, hkc, hl3]⟩)⟩)
     have c0' : wz.cell? ⟨w5.heap.size, 0, none⟩ = some (.string nm) := HXP.out.cell 0
     have c1' : wz.cell? ⟨w5.heap.size, 1, none⟩ = some (.int .i64 now) := HXP.out.cell 1
     have c2' : wz.cell? ⟨w5.heap.size, 2, none⟩ = some (.bool full) := HXP.out.cell 2
     have c3' : wz.cell? ⟨w5.heap.size, 3, none⟩ = some (.int .i64 wd) := HXP.out.cell 3
     have c4' : wz.cell? ⟨w5.heap.size, 4, none⟩ = some (.int .i64 room) := HXP.out.cell 4
     have c5' : wz.cell? ⟨w5.heap.size, 5, none⟩ = some (.slice a1 its.length c1) := HXP.out.cell 5
     have c6' : wz.cell? ⟨w5.heap.size, 6, none⟩ = some (.slice b1 ts.length d1) := HXP.out.cell 6
     have c7' : wz.cell? ⟨w5.heap.size, 7, none⟩ = some (.slice (some ⟨gq, 0, none⟩) qs1.length g1) := HXP.out.cell 7
     have s := HRP.out.store8 (.string nm) (.int .i64 now) (.bool full) (.int .i64 wd) (.int .i64 room) (.slice a1 its.length c1) (.slice b1 ts.length d1) (.slice (some ⟨gq, 0, none⟩) qs1.length g1)
     obtain ⟨q0, k0, q1, k1, q2, k2, q3, k3, q4, k4, q5, k5, q6, k6, q7, k7⟩ := s
     have HZ := hid (HRP.out.set8 (.string nm) (.int .i64 now) (.bool full) (.int .i64 wd) (.int .i64 room) (.slice a1 its.length c1) (.slice b1 ts.length d1) (.slice (some ⟨gq, 0, none⟩) qs1.length g1))
     have BB := hid (below_set8 HBP.out (b := w.heap.size + 1 + 1) (by omega) (Nat.le_refl _) (.string nm) (.int .i64 now) (.bool full) (.int .i64 wd) (.int .i64 room) (.slice a1 its.length c1) (.slice b1 ts.length d1) (.slice (some ⟨gq, 0, none⟩) qs1.length g1))
     have FOR := hid ((HFO9.out.kept (grown_set8 wz (w.heap.size + 1 + 1) (.string nm) (.int .i64 now) (.bool full) (.int .i64 wd) (.int .i64 room) (.slice a1 its.length c1) (.slice b1 ts.length d1) (.slice (some ⟨gq, 0, none⟩) qs1.length g1)) (by omega)).base (show w.heap.size + 3 ≤ w4.heap.size by omega))
     go_wp2
     rw [set8_def]
     exact bodyPost_ret (v := fval nm now full wd room (.slice a1 its.length c1) (.slice b1 ts.length d1) (.slice (some ⟨gq, 0, none⟩) qs1.length g1)) (by simp [results, Tryz.results16, go_sem, HZ.out.cell]) rfl (by unfold TakeP; exact ⟨nm, now, full, wd, room, its, ts, (qs1.set i ((⟨3, 0, pt, ⟨#[]⟩, pn⟩ : Pr), (.slice an pn.length cn))), _, _, _, rfl, HF.out, FOR.out, BB.out⟩)
    ·have hl3' : ¬ (3 : Int) < pl + 1 := by omega
     have HX15 := HX14
     have HM15 := HM14
     have HR15 := HR14
     have HP15 := HP14
     have HFO15 := HFO14
     have HB15 := HB14
     go_upto_region 26 with fail
     clear q0
     have p0' : w14.cell? ⟨w6.heap.size, 0, none⟩ = some (.int .i64 (pl + 1)) := HP15.out.cell 0
     have p1' : w14.cell? ⟨w6.heap.size, 1, none⟩ = some (.int .i64 0) := HP15.out.cell 1
     have p2' : w14.cell? ⟨w6.heap.size, 2, none⟩ = some (.int .i64 pt) := HP15.out.cell 2
     have p3' : w14.cell? ⟨w6.heap.size, 3, none⟩ = some (.string ⟨#[]⟩) := HP15.out.cell 3
     have p4' : w14.cell? ⟨w6.heap.size, 4, none⟩ = some (.slice an pn.length cn) := HP15.out.cell 4
     have z7' : w14.cell? ⟨w5.heap.size, 7, none⟩ = some (.slice (some ⟨gq, 0, none⟩) qs1.length g1) := HX15.out.cell 7
     have mm0 : w14.cell? ⟨w.heap.size + 1, 0, none⟩ = some (.int .i64 fr) := HM15.out.cell 0
     have S5 := row_store5 HFO15.out.peers.row i hlt (.int .i64 (pl + 1)) (.int .i64 0) (.int .i64 pt) (.string ⟨#[]⟩)
     obtain ⟨t0, u0, t1, u1, t2, u2, t3, u3, t4, u4⟩ := S5
     have FO9 := fetch_setP (i := i) (p := (⟨(pl + 1), 0, pt, ⟨#[]⟩, pn⟩ : Pr)) (v := (.slice an pn.length cn)) HFO15.out hlt (by have h := HFO15.out.peers.nots i hlt; rw [HV1.out, HP1.out] at h; exact h) (fun j hj hji b e e2 => HFO15.out.peers.apart2 j i hj hlt hji b e (by rw [HV1.out]; exact e2)) (fun b e e2 => HFO15.out.apartP b e (.inr ⟨i, hlt, by rw [HV1.out]; exact e2⟩))
     have GP := grown_setP w14 gq (i * 5) (⟨(pl + 1), 0, pt, ⟨#[]⟩, pn⟩ : Pr) (.slice an pn.length cn)
     have XP := HX15.out.kept GP (fun e => row_off_blk HFO15.out.peers.row HX15.out (by decide) e.symm)
     have RP := HR15.out.kept GP (fun e => row_off_blk HFO15.out.peers.row HR15.out (by decide) e.symm)
     have hgb := (HFO15.out.peers.row.lt gq rfl).1
     have hsW := HB15.out.size
     have BP := HB15.out.grown GP (by omega) (fun g e => by cases e; omega)
     obtain ⟨wz, hwz⟩ : ∃ x, x = (((((w14.setCell ⟨gq, i * 5, none⟩ (.int .i64 (pl + 1))).setCell ⟨gq, i * 5 + 1, none⟩ (.int .i64 0)).setCell ⟨gq, i * 5 + 2, none⟩ (.int .i64 pt)).setCell ⟨gq, i * 5 + 3, none⟩ (.string ⟨#[]⟩)).setCell ⟨gq, i * 5 + 4, none⟩ (.slice an pn.length cn)) := ⟨_, rfl⟩
     rw [show setP w14 gq (i * 5) (⟨(pl + 1), 0, pt, ⟨#[]⟩, pn⟩ : Pr) (.slice an pn.length cn) = wz from hwz.symm] at FO9 XP RP BP GP
     have hlz : (qs1.set i ((⟨(pl + 1), 0, pt, ⟨#[]⟩, pn⟩ : Pr), (.slice an pn.length cn))).length = qs1.length := List.length_set
     rw [hlz] at FO9
     have HFO9 := hid FO9
     have HXP := hid XP
     have HRP := hid RP
     have HBP := hid BP
     clear FO9 XP RP BP GP hgb hlz
     go_upto_region 27 with fail
     rw [← hwz]
     clear hwz p0' p1' p2' p3' p4' z7' mm0 t0 t1 t2 t3 t4 u0 u1 u2 u3 u4
     have HF : Hid (TakeR nm now full wd room its ts (qs0.map Prod.fst) fr 0 sum true text nm now full wd room its ts ((qs1.set i ((⟨pl + 1, 0, pt, ⟨#[]⟩, pn⟩ : Pr), .slice an pn.length cn)).map Prod.fst)) := hid (.inr ⟨HVAL.out, rfl, rfl, rfl, rfl, rfl, .inr (.inr ⟨HASK.out, rfl, kc, HKR.out, by rcases hkc with rfl | rfl <;> simp, by rw [HPA.out, List.map_set, ← HPS.out, ← HII.out]; simp [codeP, lieP, hkc, hl3]⟩)⟩)
     have c0' : wz.cell? ⟨w5.heap.size, 0, none⟩ = some (.string nm) := HXP.out.cell 0
     have c1' : wz.cell? ⟨w5.heap.size, 1, none⟩ = some (.int .i64 now) := HXP.out.cell 1
     have c2' : wz.cell? ⟨w5.heap.size, 2, none⟩ = some (.bool full) := HXP.out.cell 2
     have c3' : wz.cell? ⟨w5.heap.size, 3, none⟩ = some (.int .i64 wd) := HXP.out.cell 3
     have c4' : wz.cell? ⟨w5.heap.size, 4, none⟩ = some (.int .i64 room) := HXP.out.cell 4
     have c5' : wz.cell? ⟨w5.heap.size, 5, none⟩ = some (.slice a1 its.length c1) := HXP.out.cell 5
     have c6' : wz.cell? ⟨w5.heap.size, 6, none⟩ = some (.slice b1 ts.length d1) := HXP.out.cell 6
     have c7' : wz.cell? ⟨w5.heap.size, 7, none⟩ = some (.slice (some ⟨gq, 0, none⟩) qs1.length g1) := HXP.out.cell 7
     have s := HRP.out.store8 (.string nm) (.int .i64 now) (.bool full) (.int .i64 wd) (.int .i64 room) (.slice a1 its.length c1) (.slice b1 ts.length d1) (.slice (some ⟨gq, 0, none⟩) qs1.length g1)
     obtain ⟨q0, k0, q1, k1, q2, k2, q3, k3, q4, k4, q5, k5, q6, k6, q7, k7⟩ := s
     have HZ := hid (HRP.out.set8 (.string nm) (.int .i64 now) (.bool full) (.int .i64 wd) (.int .i64 room) (.slice a1 its.length c1) (.slice b1 ts.length d1) (.slice (some ⟨gq, 0, none⟩) qs1.length g1))
     have BB := hid (below_set8 HBP.out (b := w.heap.size + 1 + 1) (by omega) (Nat.le_refl _) (.string nm) (.int .i64 now) (.bool full) (.int .i64 wd) (.int .i64 room) (.slice a1 its.length c1) (.slice b1 ts.length d1) (.slice (some ⟨gq, 0, none⟩) qs1.length g1))
     have FOR := hid ((HFO9.out.kept (grown_set8 wz (w.heap.size + 1 + 1) (.string nm) (.int .i64 now) (.bool full) (.int .i64 wd) (.int .i64 room) (.slice a1 its.length c1) (.slice b1 ts.length d1) (.slice (some ⟨gq, 0, none⟩) qs1.length g1)) (by omega)).base (show w.heap.size + 3 ≤ w4.heap.size by omega))
     go_wp2
     rw [set8_def]
     exact bodyPost_ret (v := fval nm now full wd room (.slice a1 its.length c1) (.slice b1 ts.length d1) (.slice (some ⟨gq, 0, none⟩) qs1.length g1)) (by simp [results, Tryz.results16, go_sem, HZ.out.cell]) rfl (by unfold TakeP; exact ⟨nm, now, full, wd, room, its, ts, (qs1.set i ((⟨(pl + 1), 0, pt, ⟨#[]⟩, pn⟩ : Pr), (.slice an pn.length cn))), _, _, _, rfl, HF.out, FOR.out, BB.out⟩)
   | false =>
    have hnb : ¬ BadA nm wd sum text := fun h => by have := hbb.2 (.inl h); cases this
    have hc1 : ¬ code = 1 := fun h => by have := hbb.2 (.inr (.inl h)); cases this
    have hc2 : ¬ code = 2 := fun h => by have := hbb.2 (.inr (.inr h)); cases this
    clear hbb
    have q0 : w13.cell? ⟨w6.heap.size, 0, none⟩ = some (.int .i64 pl) := HP13.out.cell 0
    have hl3' : ¬ (3 : Int) < pl := by omega
    rcases HPUT.out.keep HVAL.out.store hnb with ⟨hc0, hk⟩ | ⟨hc0, hk, hw2, hr2, ht2⟩
    ·have hc3 : code = 3 := by rcases hk.codes with h | h | h | h; exact absurd h hc0; exact absurd h hc1; exact absurd h hc2; exact h
     rw [hc3] at hk
     have HKR := hid hk
     have hcb : (code == 3) = true := by simpa using hc3
     have G14 := grownBy_setCellAt w13 w5.heap.size 2 (.bool true)
     have X14 : Blk (w13.setCell ⟨w5.heap.size, 2, none⟩ (.bool true)) w5.heap.size 35 (fcells nm now true wd room (.slice a1 its.length c1) (.slice b1 ts.length d1) (.slice (some ⟨gq, 0, none⟩) qs1.length g1)) := HX13.out.set 2 (.bool true)
     have M14 := HM13.out.kept G14 (fun e => by have := Option.some.inj e; omega)
     have R14 := HR13.out.kept G14 (fun e => by have := Option.some.inj e; omega)
     have P14 := HP13.out.kept G14 (fun e => by have := Option.some.inj e; omega)
     have FO14 := HFO13.out.same (w' := w13.setCell ⟨w5.heap.size, 2, none⟩ (.bool true)) (fun b hb => G14.block b (HFO13.out.lt b hb).2 (fun e => HFX.out b hb (Option.some.inj e)))
     have hsB := HB13.out.size
     have B14 := HB13.out.grown G14 (by omega) (fun g e => by cases e; omega)
     have q2' : w13.cell? ⟨w5.heap.size, 2, none⟩ = some (.bool full) := HX13.out.cell 2
     have r2' := HX13.out.fz 2
     have q0b : (w13.setCell ⟨w5.heap.size, 2, none⟩ (.bool true)).cell? ⟨w6.heap.size, 0, none⟩ = some (.int .i64 pl) := P14.cell 0
     obtain ⟨w14, hw14⟩ : ∃ x, x = w13.setCell ⟨w5.heap.size, 2, none⟩ (.bool true) := ⟨_, rfl⟩
     rw [← hw14] at P14 X14 M14 R14 FO14 B14
     have HX15 := hid X14
     have HM15 := hid M14
     have HR15 := hid R14
     have HP15 := hid P14
     have HFO15 := hid FO14
     have HB15 := hid B14
     clear G14 P14 X14 M14 R14 FO14 B14 hsB hk hc0 hc1 hc2 hc3 hnb
     go_upto_region 26 with fail
     rw [← hw14]
     clear hw14 q2' r2' q0 q0b
     have p0' : w14.cell? ⟨w6.heap.size, 0, none⟩ = some (.int .i64 pl) := HP15.out.cell 0
     have p1' : w14.cell? ⟨w6.heap.size, 1, none⟩ = some (.int .i64 0) := HP15.out.cell 1
     have p2' : w14.cell? ⟨w6.heap.size, 2, none⟩ = some (.int .i64 pt) := HP15.out.cell 2
     have p3' : w14.cell? ⟨w6.heap.size, 3, none⟩ = some (.string ⟨#[]⟩) := HP15.out.cell 3
     have p4' : w14.cell? ⟨w6.heap.size, 4, none⟩ = some (.slice an pn.length cn) := HP15.out.cell 4
     have z7' : w14.cell? ⟨w5.heap.size, 7, none⟩ = some (.slice (some ⟨gq, 0, none⟩) qs1.length g1) := HX15.out.cell 7
     have mm0 : w14.cell? ⟨w.heap.size + 1, 0, none⟩ = some (.int .i64 fr) := HM15.out.cell 0
     have S5 := row_store5 HFO15.out.peers.row i hlt (.int .i64 pl) (.int .i64 0) (.int .i64 pt) (.string ⟨#[]⟩)
     obtain ⟨t0, u0, t1, u1, t2, u2, t3, u3, t4, u4⟩ := S5
     have FO9 := fetch_setP (i := i) (p := (⟨pl, 0, pt, ⟨#[]⟩, pn⟩ : Pr)) (v := (.slice an pn.length cn)) HFO15.out hlt (by have h := HFO15.out.peers.nots i hlt; rw [HV1.out, HP1.out] at h; exact h) (fun j hj hji b e e2 => HFO15.out.peers.apart2 j i hj hlt hji b e (by rw [HV1.out]; exact e2)) (fun b e e2 => HFO15.out.apartP b e (.inr ⟨i, hlt, by rw [HV1.out]; exact e2⟩))
     have GP := grown_setP w14 gq (i * 5) (⟨pl, 0, pt, ⟨#[]⟩, pn⟩ : Pr) (.slice an pn.length cn)
     have XP := HX15.out.kept GP (fun e => row_off_blk HFO15.out.peers.row HX15.out (by decide) e.symm)
     have RP := HR15.out.kept GP (fun e => row_off_blk HFO15.out.peers.row HR15.out (by decide) e.symm)
     have hgb := (HFO15.out.peers.row.lt gq rfl).1
     have hsW := HB15.out.size
     have BP := HB15.out.grown GP (by omega) (fun g e => by cases e; omega)
     obtain ⟨wz, hwz⟩ : ∃ x, x = (((((w14.setCell ⟨gq, i * 5, none⟩ (.int .i64 pl)).setCell ⟨gq, i * 5 + 1, none⟩ (.int .i64 0)).setCell ⟨gq, i * 5 + 2, none⟩ (.int .i64 pt)).setCell ⟨gq, i * 5 + 3, none⟩ (.string ⟨#[]⟩)).setCell ⟨gq, i * 5 + 4, none⟩ (.slice an pn.length cn)) := ⟨_, rfl⟩
     rw [show setP w14 gq (i * 5) (⟨pl, 0, pt, ⟨#[]⟩, pn⟩ : Pr) (.slice an pn.length cn) = wz from hwz.symm] at FO9 XP RP BP GP
     have hlz : (qs1.set i ((⟨pl, 0, pt, ⟨#[]⟩, pn⟩ : Pr), (.slice an pn.length cn))).length = qs1.length := List.length_set
     rw [hlz] at FO9
     have HFO9 := hid FO9
     have HXP := hid XP
     have HRP := hid RP
     have HBP := hid BP
     clear FO9 XP RP BP GP hgb hlz
     go_upto_region 27 with fail
     rw [← hwz]
     clear hwz p0' p1' p2' p3' p4' z7' mm0 t0 t1 t2 t3 t4 u0 u1 u2 u3 u4
     have HF : Hid (TakeR nm now full wd room its ts (qs0.map Prod.fst) fr 0 sum true text nm now true wd room its ts ((qs1.set i ((⟨pl, 0, pt, ⟨#[]⟩, pn⟩ : Pr), .slice an pn.length cn)).map Prod.fst)) := hid (.inr ⟨HVAL.out, rfl, rfl, rfl, rfl, rfl, .inr (.inr ⟨HASK.out, rfl, 3, HKR.out, by simp, by rw [HPA.out, List.map_set, ← HPS.out, ← HII.out]; simp [codeP, freeP]⟩)⟩)
     have c0' : wz.cell? ⟨w5.heap.size, 0, none⟩ = some (.string nm) := HXP.out.cell 0
     have c1' : wz.cell? ⟨w5.heap.size, 1, none⟩ = some (.int .i64 now) := HXP.out.cell 1
     have c2' : wz.cell? ⟨w5.heap.size, 2, none⟩ = some (.bool true) := HXP.out.cell 2
     have c3' : wz.cell? ⟨w5.heap.size, 3, none⟩ = some (.int .i64 wd) := HXP.out.cell 3
     have c4' : wz.cell? ⟨w5.heap.size, 4, none⟩ = some (.int .i64 room) := HXP.out.cell 4
     have c5' : wz.cell? ⟨w5.heap.size, 5, none⟩ = some (.slice a1 its.length c1) := HXP.out.cell 5
     have c6' : wz.cell? ⟨w5.heap.size, 6, none⟩ = some (.slice b1 ts.length d1) := HXP.out.cell 6
     have c7' : wz.cell? ⟨w5.heap.size, 7, none⟩ = some (.slice (some ⟨gq, 0, none⟩) qs1.length g1) := HXP.out.cell 7
     have s := HRP.out.store8 (.string nm) (.int .i64 now) (.bool true) (.int .i64 wd) (.int .i64 room) (.slice a1 its.length c1) (.slice b1 ts.length d1) (.slice (some ⟨gq, 0, none⟩) qs1.length g1)
     obtain ⟨q0, k0, q1, k1, q2, k2, q3, k3, q4, k4, q5, k5, q6, k6, q7, k7⟩ := s
     have HZ := hid (HRP.out.set8 (.string nm) (.int .i64 now) (.bool true) (.int .i64 wd) (.int .i64 room) (.slice a1 its.length c1) (.slice b1 ts.length d1) (.slice (some ⟨gq, 0, none⟩) qs1.length g1))
     have BB := hid (below_set8 HBP.out (b := w.heap.size + 1 + 1) (by omega) (Nat.le_refl _) (.string nm) (.int .i64 now) (.bool true) (.int .i64 wd) (.int .i64 room) (.slice a1 its.length c1) (.slice b1 ts.length d1) (.slice (some ⟨gq, 0, none⟩) qs1.length g1))
     have FOR := hid ((HFO9.out.kept (grown_set8 wz (w.heap.size + 1 + 1) (.string nm) (.int .i64 now) (.bool true) (.int .i64 wd) (.int .i64 room) (.slice a1 its.length c1) (.slice b1 ts.length d1) (.slice (some ⟨gq, 0, none⟩) qs1.length g1)) (by omega)).base (show w.heap.size + 3 ≤ w4.heap.size by omega))
     go_wp2
     rw [set8_def]
     exact bodyPost_ret (v := fval nm now true wd room (.slice a1 its.length c1) (.slice b1 ts.length d1) (.slice (some ⟨gq, 0, none⟩) qs1.length g1)) (by simp [results, Tryz.results16, go_sem, HZ.out.cell]) rfl (by unfold TakeP; exact ⟨nm, now, true, wd, room, its, ts, (qs1.set i ((⟨pl, 0, pt, ⟨#[]⟩, pn⟩ : Pr), (.slice an pn.length cn))), _, _, _, rfl, HF.out, FOR.out, BB.out⟩)
    ·have HKR := hid hk
     have hcb : (code == 3) = false := by rw [hc0]; rfl
     have f1 := hw2.symm; subst f1; have f2 := hr2.symm; subst f2; have f3 := ht2.symm; subst f3
     clear hw2 hr2 ht2 hc0 hc1 hc2 hnb hk
     have u3 : w13.cell? ⟨w5.heap.size, 3, none⟩ = some (.int .i64 wd) := HX13.out.cell 3
     have v3 := HX13.out.fz 3
     have K1 : Blk (w13.setCell ⟨w5.heap.size, 3, none⟩ (.int .i64 wd)) w5.heap.size 35 (fcells nm now full wd room (.slice a1 its.length c1) (.slice b1 ts.length d1) (.slice (some ⟨gq, 0, none⟩) qs1.length g1)) := HX13.out.set 3 (.int .i64 wd)
     have u4 : (w13.setCell ⟨w5.heap.size, 3, none⟩ (.int .i64 wd)).cell? ⟨w5.heap.size, 4, none⟩ = some (.int .i64 room) := K1.cell 4
     have v4 := K1.fz 4
     have K2 : Blk ((w13.setCell ⟨w5.heap.size, 3, none⟩ (.int .i64 wd)).setCell ⟨w5.heap.size, 4, none⟩ (.int .i64 room)) w5.heap.size 35 (fcells nm now full wd room (.slice a1 its.length c1) (.slice b1 ts.length d1) (.slice (some ⟨gq, 0, none⟩) qs1.length g1)) := K1.set 4 (.int .i64 room)
     have u5 : ((w13.setCell ⟨w5.heap.size, 3, none⟩ (.int .i64 wd)).setCell ⟨w5.heap.size, 4, none⟩ (.int .i64 room)).cell? ⟨w5.heap.size, 5, none⟩ = some (.slice a1 its.length c1) := K2.cell 5
     have v5 := K2.fz 5
     have K3 : Blk (((w13.setCell ⟨w5.heap.size, 3, none⟩ (.int .i64 wd)).setCell ⟨w5.heap.size, 4, none⟩ (.int .i64 room)).setCell ⟨w5.heap.size, 5, none⟩ (.slice a2 its2.length c2)) w5.heap.size 35 (fcells nm now full wd room (.slice a2 its2.length c2) (.slice b1 ts.length d1) (.slice (some ⟨gq, 0, none⟩) qs1.length g1)) := K2.set 5 (.slice a2 its2.length c2)
     have u6 : (((w13.setCell ⟨w5.heap.size, 3, none⟩ (.int .i64 wd)).setCell ⟨w5.heap.size, 4, none⟩ (.int .i64 room)).setCell ⟨w5.heap.size, 5, none⟩ (.slice a2 its2.length c2)).cell? ⟨w5.heap.size, 6, none⟩ = some (.slice b1 ts.length d1) := K3.cell 6
     have v6 := K3.fz 6
     have K4 : Blk ((((w13.setCell ⟨w5.heap.size, 3, none⟩ (.int .i64 wd)).setCell ⟨w5.heap.size, 4, none⟩ (.int .i64 room)).setCell ⟨w5.heap.size, 5, none⟩ (.slice a2 its2.length c2)).setCell ⟨w5.heap.size, 6, none⟩ (.slice b2 ts.length d2)) w5.heap.size 35 (fcells nm now full wd room (.slice a2 its2.length c2) (.slice b2 ts.length d2) (.slice (some ⟨gq, 0, none⟩) qs1.length g1)) := K3.set 6 (.slice b2 ts.length d2)
     have G14 := grown_same (grown_same (grown_same (grownBy_setCellAt w13 w5.heap.size 3 (.int .i64 wd)) (grownBy_setCellAt _ w5.heap.size 4 (.int .i64 room))) (grownBy_setCellAt _ w5.heap.size 5 (.slice a2 its2.length c2))) (grownBy_setCellAt _ w5.heap.size 6 (.slice b2 ts.length d2))
     have s0' : w13.cell? ⟨w11.heap.size, 0, none⟩ = some (.int .i64 wd) := HS13.out.cell 0
     have s1' : w13.cell? ⟨w11.heap.size, 1, none⟩ = some (.int .i64 room) := HS13.out.cell 1
     have s2' : w13.cell? ⟨w11.heap.size, 2, none⟩ = some (.slice a2 its2.length c2) := HS13.out.cell 2
     have s3' : w13.cell? ⟨w11.heap.size, 3, none⟩ = some (.slice b2 ts.length d2) := HS13.out.cell 3
     have q0b : ((((w13.setCell ⟨w5.heap.size, 3, none⟩ (.int .i64 wd)).setCell ⟨w5.heap.size, 4, none⟩ (.int .i64 room)).setCell ⟨w5.heap.size, 5, none⟩ (.slice a2 its2.length c2)).setCell ⟨w5.heap.size, 6, none⟩ (.slice b2 ts.length d2)).cell? ⟨w6.heap.size, 0, none⟩ = some (.int .i64 pl) := (HP13.out.kept G14 (fun e => by have := Option.some.inj e; omega)).cell 0
     obtain ⟨w14, hw14⟩ : ∃ x, x = ((((w13.setCell ⟨w5.heap.size, 3, none⟩ (.int .i64 wd)).setCell ⟨w5.heap.size, 4, none⟩ (.int .i64 room)).setCell ⟨w5.heap.size, 5, none⟩ (.slice a2 its2.length c2)).setCell ⟨w5.heap.size, 6, none⟩ (.slice b2 ts.length d2)) := ⟨_, rfl⟩
     rw [← hw14] at K4 G14
     have hsB := HB13.out.size
     have HX15 := hid K4
     have HM15 := hid (HM13.out.kept G14 (fun e => by have := Option.some.inj e; omega))
     have HR15 := hid (HR13.out.kept G14 (fun e => by have := Option.some.inj e; omega))
     have HP15 := hid (HP13.out.kept G14 (fun e => by have := Option.some.inj e; omega))
     have hlow : ∀ b, PBlk (.slice (some ⟨gq, 0, none⟩) qs1.length g1) qs1 b → b < w10.heap.size + 2 := fun b hb => by have := HLT.out b (.inr (.inr hb)); omega
     have HFO15 := hid (show FetchOwn w14 w4.heap.size (.slice a2 its2.length c2) (.slice b2 ts.length d2) (.slice (some ⟨gq, 0, none⟩) qs1.length g1) its2 ts qs1 from ⟨(HSO13.out.kept G14 (by omega)).base (by omega), HFO13.out.peers.same (fun b hb => G14.block b (HFO13.out.peers.lt b hb).2 (fun e => HFX.out b (.inr (.inr hb)) (Option.some.inj e))), fun g e h => by have h1 := (HSO13.out.items.lt g e).1; have h2 := hlow g h; omega, fun g e h => by have h1 := (HSO13.out.pins.lt g e).1; have h2 := hlow g h; omega⟩)
     have HB15 := hid (HB13.out.grown G14 (by omega) (fun g e => by cases e; omega))
     clear K1 K2 K3 K4 G14 hsB hlow
     go_upto_region 26 with fail
     rw [← hw14]
     clear hw14 q0 q0b u3 u4 u5 u6 v3 v4 v5 v6 s0' s1' s2' s3'
     have p0' : w14.cell? ⟨w6.heap.size, 0, none⟩ = some (.int .i64 pl) := HP15.out.cell 0
     have p1' : w14.cell? ⟨w6.heap.size, 1, none⟩ = some (.int .i64 0) := HP15.out.cell 1
     have p2' : w14.cell? ⟨w6.heap.size, 2, none⟩ = some (.int .i64 pt) := HP15.out.cell 2
     have p3' : w14.cell? ⟨w6.heap.size, 3, none⟩ = some (.string ⟨#[]⟩) := HP15.out.cell 3
     have p4' : w14.cell? ⟨w6.heap.size, 4, none⟩ = some (.slice an pn.length cn) := HP15.out.cell 4
     have z7' : w14.cell? ⟨w5.heap.size, 7, none⟩ = some (.slice (some ⟨gq, 0, none⟩) qs1.length g1) := HX15.out.cell 7
     have mm0 : w14.cell? ⟨w.heap.size + 1, 0, none⟩ = some (.int .i64 fr) := HM15.out.cell 0
     have S5 := row_store5 HFO15.out.peers.row i hlt (.int .i64 pl) (.int .i64 0) (.int .i64 pt) (.string ⟨#[]⟩)
     obtain ⟨t0, u0, t1, u1, t2, u2, t3, u3, t4, u4⟩ := S5
     have FO9 := fetch_setP (i := i) (p := (⟨pl, 0, pt, ⟨#[]⟩, pn⟩ : Pr)) (v := (.slice an pn.length cn)) HFO15.out hlt (by have h := HFO15.out.peers.nots i hlt; rw [HV1.out, HP1.out] at h; exact h) (fun j hj hji b e e2 => HFO15.out.peers.apart2 j i hj hlt hji b e (by rw [HV1.out]; exact e2)) (fun b e e2 => HFO15.out.apartP b e (.inr ⟨i, hlt, by rw [HV1.out]; exact e2⟩))
     have GP := grown_setP w14 gq (i * 5) (⟨pl, 0, pt, ⟨#[]⟩, pn⟩ : Pr) (.slice an pn.length cn)
     have XP := HX15.out.kept GP (fun e => row_off_blk HFO15.out.peers.row HX15.out (by decide) e.symm)
     have RP := HR15.out.kept GP (fun e => row_off_blk HFO15.out.peers.row HR15.out (by decide) e.symm)
     have hgb := (HFO15.out.peers.row.lt gq rfl).1
     have hsW := HB15.out.size
     have BP := HB15.out.grown GP (by omega) (fun g e => by cases e; omega)
     obtain ⟨wz, hwz⟩ : ∃ x, x = (((((w14.setCell ⟨gq, i * 5, none⟩ (.int .i64 pl)).setCell ⟨gq, i * 5 + 1, none⟩ (.int .i64 0)).setCell ⟨gq, i * 5 + 2, none⟩ (.int .i64 pt)).setCell ⟨gq, i * 5 + 3, none⟩ (.string ⟨#[]⟩)).setCell ⟨gq, i * 5 + 4, none⟩ (.slice an pn.length cn)) := ⟨_, rfl⟩
     rw [show setP w14 gq (i * 5) (⟨pl, 0, pt, ⟨#[]⟩, pn⟩ : Pr) (.slice an pn.length cn) = wz from hwz.symm] at FO9 XP RP BP GP
     have hlz : (qs1.set i ((⟨pl, 0, pt, ⟨#[]⟩, pn⟩ : Pr), (.slice an pn.length cn))).length = qs1.length := List.length_set
     rw [hlz] at FO9
     have HFO9 := hid FO9
     have HXP := hid XP
     have HRP := hid RP
     have HBP := hid BP
     clear FO9 XP RP BP GP hgb hlz
     go_upto_region 27 with fail
     rw [← hwz]
     clear hwz p0' p1' p2' p3' p4' z7' mm0 t0 t1 t2 t3 t4 u0 u1 u2 u3 u4
     have HF : Hid (TakeR nm now full wd room its ts (qs0.map Prod.fst) fr 0 sum true text nm now full wd room its2 ts ((qs1.set i ((⟨pl, 0, pt, ⟨#[]⟩, pn⟩ : Pr), .slice an pn.length cn)).map Prod.fst)) := hid (.inr ⟨HVAL.out, rfl, rfl, rfl, rfl, rfl, .inr (.inr ⟨HASK.out, rfl, 0, HKR.out, by simp, by rw [HPA.out, List.map_set, ← HPS.out, ← HII.out]; simp [codeP, freeP]⟩)⟩)
     have c0' : wz.cell? ⟨w5.heap.size, 0, none⟩ = some (.string nm) := HXP.out.cell 0
     have c1' : wz.cell? ⟨w5.heap.size, 1, none⟩ = some (.int .i64 now) := HXP.out.cell 1
     have c2' : wz.cell? ⟨w5.heap.size, 2, none⟩ = some (.bool full) := HXP.out.cell 2
     have c3' : wz.cell? ⟨w5.heap.size, 3, none⟩ = some (.int .i64 wd) := HXP.out.cell 3
     have c4' : wz.cell? ⟨w5.heap.size, 4, none⟩ = some (.int .i64 room) := HXP.out.cell 4
     have c5' : wz.cell? ⟨w5.heap.size, 5, none⟩ = some (.slice a2 its2.length c2) := HXP.out.cell 5
     have c6' : wz.cell? ⟨w5.heap.size, 6, none⟩ = some (.slice b2 ts.length d2) := HXP.out.cell 6
     have c7' : wz.cell? ⟨w5.heap.size, 7, none⟩ = some (.slice (some ⟨gq, 0, none⟩) qs1.length g1) := HXP.out.cell 7
     have s := HRP.out.store8 (.string nm) (.int .i64 now) (.bool full) (.int .i64 wd) (.int .i64 room) (.slice a2 its2.length c2) (.slice b2 ts.length d2) (.slice (some ⟨gq, 0, none⟩) qs1.length g1)
     obtain ⟨q0, k0, q1, k1, q2, k2, q3, k3, q4, k4, q5, k5, q6, k6, q7, k7⟩ := s
     have HZ := hid (HRP.out.set8 (.string nm) (.int .i64 now) (.bool full) (.int .i64 wd) (.int .i64 room) (.slice a2 its2.length c2) (.slice b2 ts.length d2) (.slice (some ⟨gq, 0, none⟩) qs1.length g1))
     have BB := hid (below_set8 HBP.out (b := w.heap.size + 1 + 1) (by omega) (Nat.le_refl _) (.string nm) (.int .i64 now) (.bool full) (.int .i64 wd) (.int .i64 room) (.slice a2 its2.length c2) (.slice b2 ts.length d2) (.slice (some ⟨gq, 0, none⟩) qs1.length g1))
     have FOR := hid ((HFO9.out.kept (grown_set8 wz (w.heap.size + 1 + 1) (.string nm) (.int .i64 now) (.bool full) (.int .i64 wd) (.int .i64 room) (.slice a2 its2.length c2) (.slice b2 ts.length d2) (.slice (some ⟨gq, 0, none⟩) qs1.length g1)) (by omega)).base (show w.heap.size + 3 ≤ w4.heap.size by omega))
     go_wp2
     rw [set8_def]
     exact bodyPost_ret (v := fval nm now full wd room (.slice a2 its2.length c2) (.slice b2 ts.length d2) (.slice (some ⟨gq, 0, none⟩) qs1.length g1)) (by simp [results, Tryz.results16, go_sem, HZ.out.cell]) rfl (by unfold TakeP; exact ⟨nm, now, full, wd, room, its2, ts, (qs1.set i ((⟨pl, 0, pt, ⟨#[]⟩, pn⟩ : Pr), (.slice an pn.length cn))), _, _, _, rfl, HF.out, FOR.out, BB.out⟩)
end Go.Proofs.YtbihndholamdfaaGreatDoor
