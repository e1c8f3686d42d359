/- Copies of fetches. -/
import Derived.Test.YtlnkhbnbcmllaaaGreatFetchTo2
namespace Go.Proofs.YtlnkhbnbcmllaaaGreat
open Go.RowKit
set_option maxRecDepth 100000 in
set_option maxHeartbeats 2000000 in
theorem toFetch_any (nm : ByteArray) (now : Int) (full : Bool) (wd room : Int) (vi vp vq : Value) (its : Itms) (ts : List ByteArray) (ps : Prs) (w : World) (hi : RdI w vi its) (hp : Reads w vp ts) (hq : RdP w vq ps) (hli : its.length ≤ 1048576) (hlp : ts.length ≤ 1048576) (hlq : ps.length ≤ 1048576) (hf : PsFit 1048576 ps) :
    Calls Tryz.prog 7 #[fval nm now full wd room vi vp vq] w fun e w' => ∃ vi' vp' vq' qs, e = .returned (fval nm now full wd room vi' vp' vq') ∧ qs.map Prod.fst = ps ∧ FetchOwn w' (w.heap.size + 3) vi' vp' vq' its ts qs ∧ OwnI w' (w.heap.size + 3) vi' its ∧ Below w.heap.size w w' := by
  have hN1 := ((Blk.new w 28 (fcells nm now full wd room vi vp vq)).alloc (.cells #[.string ⟨#[]⟩, .int .i64 0, .bool false, .int .i64 0, .int .i64 0, .slice none 0 0, .slice none 0 0, .slice none 0 0] 37)).alloc (.cells #[.string nm, .int .i64 now, .bool full, .int .i64 0, .int .i64 0, .slice none 0 0, .slice none 0 0, .slice none 0 0] 37)
  have hN2 := (Blk.new (w.alloc (.cells (fcells nm now full wd room vi vp vq) 28)) 37 #[.string ⟨#[]⟩, .int .i64 0, .bool false, .int .i64 0, .int .i64 0, .slice none 0 0, .slice none 0 0, .slice none 0 0]).alloc (.cells #[.string nm, .int .i64 now, .bool full, .int .i64 0, .int .i64 0, .slice none 0 0, .slice none 0 0, .slice none 0 0] 37)
  have hN3 := Blk.new ((w.alloc (.cells (fcells nm now full wd room vi vp vq) 28)).alloc (.cells #[.string ⟨#[]⟩, .int .i64 0, .bool false, .int .i64 0, .int .i64 0, .slice none 0 0, .slice none 0 0, .slice none 0 0] 37)) 37 #[.string nm, .int .i64 now, .bool full, .int .i64 0, .int .i64 0, .slice none 0 0, .slice none 0 0, .slice none 0 0]
  rw [World.size_alloc] at hN2
  rw [World.size_alloc, World.size_alloc] at hN3
  have hA := (((Below.refl w.heap.size w).alloc (Nat.le_refl _) (.cells (fcells nm now full wd room vi vp vq) 28)).alloc (by simp) (.cells #[.string ⟨#[]⟩, .int .i64 0, .bool false, .int .i64 0, .int .i64 0, .slice none 0 0, .slice none 0 0, .slice none 0 0] 37)).alloc (by simp; omega) (.cells #[.string nm, .int .i64 now, .bool full, .int .i64 0, .int .i64 0, .slice none 0 0, .slice none 0 0, .slice none 0 0] 37)
  have HT := hid (toStore2_any wd room vi vp its ts _ (hi.below hA) (hp.below hA) hli hlp)
  have HTP := hid fun W h => toPeerS_any vq ps W h hlq hf
  have HQ := hid hq
  obtain ⟨ai, ci, rfl, _⟩ := hi
  obtain ⟨ap, cp, rfl, _⟩ := hp.form
  obtain ⟨aq, cq, rfl, _⟩ := hq
  have HN1 := hid hN1
  have HN2 := hid hN2
  have HN3 := hid hN3
  have HA := hid hA
  clear hp hA hN1 hN2 hN3 hf
  go_enter Tryz.func7, Tryz.ntmps7
  go_wp2_with fail
  refine HT.out.mono ?_
  rintro e w1 ⟨v1, p1, rfl, oi1, op1, hap1, hb1⟩
  have N1 := HN1.out.below hb1
  have N2 := HN2.out.below hb1
  have N3 := HN3.out.below hb1
  have B1 := HA.out.trans (hb1.mono (by simp; omega))
  rw [World.size_alloc, World.size_alloc, World.size_alloc] at oi1 op1
  have hs1 := hb1.size
  rw [World.size_alloc, World.size_alloc, World.size_alloc] at hs1
  have so1 : StoreOwn w1 (w.heap.size + 1 + 1 + 1) v1 p1 its ts := ⟨oi1.row hli, op1, hap1⟩
  have HOI1 := hid oi1
  obtain ⟨a1, c1, rfl⟩ := row_any so1.items
  obtain ⟨b1, d1, rfl⟩ := row_any so1.pins
  have K1 : Blk (w1.setCell ⟨w.heap.size + 1 + 1, 3, none⟩ (.int .i64 wd)) (w.heap.size + 1 + 1) 37 #[.string nm, .int .i64 now, .bool full, .int .i64 wd, .int .i64 0, .slice none 0 0, .slice none 0 0, .slice none 0 0] := N3.set 3 (.int .i64 wd)
  have K2 : Blk ((w1.setCell ⟨w.heap.size + 1 + 1, 3, none⟩ (.int .i64 wd)).setCell ⟨w.heap.size + 1 + 1, 4, none⟩ (.int .i64 room)) (w.heap.size + 1 + 1) 37 #[.string nm, .int .i64 now, .bool full, .int .i64 wd, .int .i64 room, .slice none 0 0, .slice none 0 0, .slice none 0 0] := K1.set 4 (.int .i64 room)
  have K3 : Blk (((w1.setCell ⟨w.heap.size + 1 + 1, 3, none⟩ (.int .i64 wd)).setCell ⟨w.heap.size + 1 + 1, 4, none⟩ (.int .i64 room)).setCell ⟨w.heap.size + 1 + 1, 5, none⟩ (.slice a1 its.length c1)) (w.heap.size + 1 + 1) 37 #[.string nm, .int .i64 now, .bool full, .int .i64 wd, .int .i64 room, .slice a1 its.length c1, .slice none 0 0, .slice none 0 0] := K2.set 5 (.slice a1 its.length c1)
  have K4 : Blk ((((w1.setCell ⟨w.heap.size + 1 + 1, 3, none⟩ (.int .i64 wd)).setCell ⟨w.heap.size + 1 + 1, 4, none⟩ (.int .i64 room)).setCell ⟨w.heap.size + 1 + 1, 5, none⟩ (.slice a1 its.length c1)).setCell ⟨w.heap.size + 1 + 1, 6, none⟩ (.slice b1 ts.length d1)) (w.heap.size + 1 + 1) 37 #[.string nm, .int .i64 now, .bool full, .int .i64 wd, .int .i64 room, .slice a1 its.length c1, .slice b1 ts.length d1, .slice none 0 0] := K3.set 6 (.slice b1 ts.length d1)
  have u0 : w1.cell? ⟨w.heap.size + 1 + 1, 3, none⟩ = some (.int .i64 0) := N3.cell 3
  have r0 : w1.frozen? ⟨w.heap.size + 1 + 1, 3, none⟩ = false := N3.fz 3
  have u1 : (w1.setCell ⟨w.heap.size + 1 + 1, 3, none⟩ (.int .i64 wd)).cell? ⟨w.heap.size + 1 + 1, 4, none⟩ = some (.int .i64 0) := K1.cell 4
  have r1 : (w1.setCell ⟨w.heap.size + 1 + 1, 3, none⟩ (.int .i64 wd)).frozen? ⟨w.heap.size + 1 + 1, 4, none⟩ = false := K1.fz 4
  have u2 : ((w1.setCell ⟨w.heap.size + 1 + 1, 3, none⟩ (.int .i64 wd)).setCell ⟨w.heap.size + 1 + 1, 4, none⟩ (.int .i64 room)).cell? ⟨w.heap.size + 1 + 1, 5, none⟩ = some (.slice none 0 0) := K2.cell 5
  have r2 : ((w1.setCell ⟨w.heap.size + 1 + 1, 3, none⟩ (.int .i64 wd)).setCell ⟨w.heap.size + 1 + 1, 4, none⟩ (.int .i64 room)).frozen? ⟨w.heap.size + 1 + 1, 5, none⟩ = false := K2.fz 5
  have u3 : (((w1.setCell ⟨w.heap.size + 1 + 1, 3, none⟩ (.int .i64 wd)).setCell ⟨w.heap.size + 1 + 1, 4, none⟩ (.int .i64 room)).setCell ⟨w.heap.size + 1 + 1, 5, none⟩ (.slice a1 its.length c1)).cell? ⟨w.heap.size + 1 + 1, 6, none⟩ = some (.slice none 0 0) := K3.cell 6
  have r3 : (((w1.setCell ⟨w.heap.size + 1 + 1, 3, none⟩ (.int .i64 wd)).setCell ⟨w.heap.size + 1 + 1, 4, none⟩ (.int .i64 room)).setCell ⟨w.heap.size + 1 + 1, 5, none⟩ (.slice a1 its.length c1)).frozen? ⟨w.heap.size + 1 + 1, 6, none⟩ = false := K3.fz 6
  have G4 := grown_same (grown_same (grown_same (grownBy_setCellAt w1 (w.heap.size + 1 + 1) 3 (.int .i64 wd)) (grownBy_setCellAt _ (w.heap.size + 1 + 1) 4 (.int .i64 room))) (grownBy_setCellAt _ (w.heap.size + 1 + 1) 5 (.slice a1 its.length c1))) (grownBy_setCellAt _ (w.heap.size + 1 + 1) 6 (.slice b1 ts.length d1))
  have hne1 : w.heap.size ≠ w.heap.size + 1 + 1 := by omega
  have hne2 : w.heap.size + 1 ≠ w.heap.size + 1 + 1 := by omega
  have M1 := N1.kept G4 (fun e => hne1 (Option.some.inj e))
  have M2 := N2.kept G4 (fun e => hne2 (Option.some.inj e))
  have MB := B1.grown G4 (by omega) (fun g e => by cases e; omega)
  have MS := so1.kept G4 (by omega)
  have y7 : ((((w1.setCell ⟨w.heap.size + 1 + 1, 3, none⟩ (.int .i64 wd)).setCell ⟨w.heap.size + 1 + 1, 4, none⟩ (.int .i64 room)).setCell ⟨w.heap.size + 1 + 1, 5, none⟩ (.slice a1 its.length c1)).setCell ⟨w.heap.size + 1 + 1, 6, none⟩ (.slice b1 ts.length d1)).cell? ⟨w.heap.size, 7, none⟩ = some (.slice aq ps.length cq) := M1.cell 7
  have hs4 := G4.size
  have HK4 := hid K4
  have HM2 := hid M2
  have HMB := hid MB
  have HMS := hid MS
  have HG4 := hid G4
  have HLI := hid fun g (e : (Value.slice a1 its.length c1).ownBlock = some g) => so1.items.lt g e
  have HLP := hid fun g (e : (Value.slice b1 ts.length d1).ownBlock = some g) => so1.pins.lt g e
  have HTP4 := hid (HTP.out _ (HQ.out.below MB))
  clear K1 K2 K3 K4 M1 M2 MB MS N1 N2 N3 B1 so1 oi1 op1 hap1 hb1 G4 HTP
  go_wp2_with fail
  obtain ⟨w4, hw4⟩ : ∃ w4, w4 = ((((w1.setCell ⟨w.heap.size + 1 + 1, 3, none⟩ (.int .i64 wd)).setCell ⟨w.heap.size + 1 + 1, 4, none⟩ (.int .i64 room)).setCell ⟨w.heap.size + 1 + 1, 5, none⟩ (.slice a1 its.length c1)).setCell ⟨w.heap.size + 1 + 1, 6, none⟩ (.slice b1 ts.length d1)) := ⟨_, rfl⟩
  rw [← hw4] at HK4 HM2 HMB HMS HG4 HTP4 hs4 ⊢
  clear u0 u1 u2 u3 r0 r1 r2 r3 y7 hw4
  refine HTP4.out.mono ?_
  rintro e w5 ⟨v5, qs, rfl, hqs, po5, hb5⟩
  obtain ⟨a5, c5, rfl⟩ := row_any po5.row
  have hql : qs.length = ps.length := by rw [← hqs, List.length_map]
  have HQS := hid hqs
  rw [hql] at po5
  rw [hql]
  have K5 := HK4.out.below hb5
  have M5 := HM2.out.below hb5
  have B5 := HMB.out.trans (hb5.mono HMB.out.size)
  have S5 := HMS.out.below hb5
  have x7 : w5.cell? ⟨w.heap.size + 1 + 1, 7, none⟩ = some (.slice none 0 0) := K5.cell 7
  have x8 := K5.fz 7
  have K6 : Blk (w5.setCell ⟨w.heap.size + 1 + 1, 7, none⟩ (.slice a5 ps.length c5)) (w.heap.size + 1 + 1) 37 #[.string nm, .int .i64 now, .bool full, .int .i64 wd, .int .i64 room, .slice a1 its.length c1, .slice b1 ts.length d1, .slice a5 ps.length c5] := K5.set 7 (.slice a5 ps.length c5)
  have g6 := grownBy_setCellAt w5 (w.heap.size + 1 + 1) 7 (.slice a5 ps.length c5)
  have M6 := M5.kept g6 (fun e => hne2 (Option.some.inj e))
  have B6 := B5.setCell (p := ⟨w.heap.size + 1 + 1, 7, none⟩) (by simp; omega) (.slice a5 ps.length c5)
  have l0 : (w5.setCell ⟨w.heap.size + 1 + 1, 7, none⟩ (.slice a5 ps.length c5)).cell? ⟨w.heap.size + 1 + 1, 0, none⟩ = some (.string nm) := K6.cell 0
  have l1 : (w5.setCell ⟨w.heap.size + 1 + 1, 7, none⟩ (.slice a5 ps.length c5)).cell? ⟨w.heap.size + 1 + 1, 1, none⟩ = some (.int .i64 now) := K6.cell 1
  have l2 : (w5.setCell ⟨w.heap.size + 1 + 1, 7, none⟩ (.slice a5 ps.length c5)).cell? ⟨w.heap.size + 1 + 1, 2, none⟩ = some (.bool full) := K6.cell 2
  have l3 : (w5.setCell ⟨w.heap.size + 1 + 1, 7, none⟩ (.slice a5 ps.length c5)).cell? ⟨w.heap.size + 1 + 1, 3, none⟩ = some (.int .i64 wd) := K6.cell 3
  have l4 : (w5.setCell ⟨w.heap.size + 1 + 1, 7, none⟩ (.slice a5 ps.length c5)).cell? ⟨w.heap.size + 1 + 1, 4, none⟩ = some (.int .i64 room) := K6.cell 4
  have l5 : (w5.setCell ⟨w.heap.size + 1 + 1, 7, none⟩ (.slice a5 ps.length c5)).cell? ⟨w.heap.size + 1 + 1, 5, none⟩ = some (.slice a1 its.length c1) := K6.cell 5
  have l6 : (w5.setCell ⟨w.heap.size + 1 + 1, 7, none⟩ (.slice a5 ps.length c5)).cell? ⟨w.heap.size + 1 + 1, 6, none⟩ = some (.slice b1 ts.length d1) := K6.cell 6
  have l7 : (w5.setCell ⟨w.heap.size + 1 + 1, 7, none⟩ (.slice a5 ps.length c5)).cell? ⟨w.heap.size + 1 + 1, 7, none⟩ = some (.slice a5 ps.length c5) := K6.cell 7
  obtain ⟨q0, k0, q1, k1, q2, k2, q3, k3, q4, k4, q5, k5, q6, k6, q7, k7⟩ := M6.store8 (.string nm) (.int .i64 now) (.bool full) (.int .i64 wd) (.int .i64 room) (.slice a1 its.length c1) (.slice b1 ts.length d1) (.slice a5 ps.length c5)
  have Z := hid (M6.set8 (.string nm) (.int .i64 now) (.bool full) (.int .i64 wd) (.int .i64 room) (.slice a1 its.length c1) (.slice b1 ts.length d1) (.slice a5 ps.length c5))
  have g8 := grown_set8 (w5.setCell ⟨w.heap.size + 1 + 1, 7, none⟩ (.slice a5 ps.length c5)) (w.heap.size + 1) (.string nm) (.int .i64 now) (.bool full) (.int .i64 wd) (.int .i64 room) (.slice a1 its.length c1) (.slice b1 ts.length d1) (.slice a5 ps.length c5)
  have BB := hid (below_set8 B6 (b := w.heap.size + 1) (by omega) (Nat.le_refl _) (.string nm) (.int .i64 now) (.bool full) (.int .i64 wd) (.int .i64 room) (.slice a1 its.length c1) (.slice b1 ts.length d1) (.slice a5 ps.length c5))
  have S8 := (S5.kept g6 (by omega)).kept g8 (by omega)
  have hs5 := hb5.size
  have P8 := ((po5.kept g6 (by omega)).kept g8 (by omega)).base (show w.heap.size + 3 ≤ _ by omega)
  have hpl := po5.lt
  have FO : Hid (FetchOwn (set8 (w5.setCell ⟨w.heap.size + 1 + 1, 7, none⟩ (.slice a5 ps.length c5)) (w.heap.size + 1) (.string nm) (.int .i64 now) (.bool full) (.int .i64 wd) (.int .i64 room) (.slice a1 its.length c1) (.slice b1 ts.length d1) (.slice a5 ps.length c5)) (w.heap.size + 3) (.slice a1 its.length c1) (.slice b1 ts.length d1) (.slice a5 ps.length c5) its ts qs) :=
    ⟨S8.base (by omega), P8, fun g e h => by have h1 := (HLI.out g e).2; have h2 := (hpl g h).1; omega, fun g e h => by have h1 := (HLP.out g e).2; have h2 := (hpl g h).1; omega⟩
  have OI : Hid (OwnI (set8 (w5.setCell ⟨w.heap.size + 1 + 1, 7, none⟩ (.slice a5 ps.length c5)) (w.heap.size + 1) (.string nm) (.int .i64 now) (.bool full) (.int .i64 wd) (.int .i64 room) (.slice a1 its.length c1) (.slice b1 ts.length d1) (.slice a5 ps.length c5)) (w.heap.size + 3) (.slice a1 its.length c1) its) := by
    obtain ⟨g, e, hg, hG⟩ := HOI1.out
    have hgl := hG.lt
    have h4 := (hG.kept HG4.out (fun e => by have := Option.some.inj e; omega)).below hb5
    exact ⟨g, e, by omega, (h4.kept g6 (fun e => by have := Option.some.inj e; omega)).kept g8 (fun e => by have := Option.some.inj e; omega)⟩
  clear K5 K6 M5 M6 B5 B6 S5 S8 P8 po5 hb5 g6 g8 hpl hqs
  go_wp2
  rw [set8_def]
  refine bodyPost_ret (v := fval nm now full wd room (.slice a1 its.length c1) (.slice b1 ts.length d1) (.slice a5 ps.length c5)) (by simp [results, Tryz.results7, go_sem, Z.out.cell]) rfl ⟨_, _, _, qs, rfl, HQS.out, FO.out, OI.out, BB.out⟩
end Go.Proofs.YtlnkhbnbcmllaaaGreat
