/- Copies of stores; whether two are the same. -/
import Derived.Test.YtlnkhbnbcmllaaaGreatStoreArgs
namespace Go.Proofs.YtlnkhbnbcmllaaaGreat
open Go.RowKit
set_option maxRecDepth 100000 in
set_option maxHeartbeats 1000000 in
theorem toStore_any (wd room : Int) (vi vp : Value) (its : Itms) (ts : List ByteArray) (w : World) (hi : RdI w vi its) (hp : Reads w vp ts) (hli : its.length ≤ 1048576) (hlp : ts.length ≤ 1048576) :
    Calls Tryz.prog 23 #[.agg #[.int .i64 wd, .int .i64 room, vi, vp]] w fun e w' => ∃ vi' vp', e = .returned (.agg #[.int .i64 wd, .int .i64 room, vi', vp']) ∧ OwnI w' w.heap.size vi' its ∧ w'.ownsRow w.heap.size 9 1 vp' ts.length (ts.map Value.string) ∧ Below w.heap.size w w' := by
  have hN1 := ((Blk.new w 25 #[.int .i64 wd, .int .i64 room, vi, vp]).alloc (.cells #[.int .i64 0, .int .i64 0, .slice none 0 0, .slice none 0 0] 34)).alloc (.cells #[.int .i64 wd, .int .i64 room, .slice none 0 0, .slice none 0 0] 34)
  have hN2 := (Blk.new (w.alloc (.cells #[.int .i64 wd, .int .i64 room, vi, vp] 25)) 34 #[.int .i64 0, .int .i64 0, .slice none 0 0, .slice none 0 0]).alloc (.cells #[.int .i64 wd, .int .i64 room, .slice none 0 0, .slice none 0 0] 34)
  have hN3 := Blk.new ((w.alloc (.cells #[.int .i64 wd, .int .i64 room, vi, vp] 25)).alloc (.cells #[.int .i64 0, .int .i64 0, .slice none 0 0, .slice none 0 0] 34)) 34 #[.int .i64 wd, .int .i64 room, .slice none 0 0, .slice none 0 0]
  rw [World.size_alloc] at hN2
  rw [World.size_alloc, World.size_alloc] at hN3
  have hA := (((Below.refl w.heap.size w).alloc (Nat.le_refl _) (.cells #[.int .i64 wd, .int .i64 room, vi, vp] 25)).alloc (by simp) (.cells #[.int .i64 0, .int .i64 0, .slice none 0 0, .slice none 0 0] 34)).alloc (by simp; omega) (.cells #[.int .i64 wd, .int .i64 room, .slice none 0 0, .slice none 0 0] 34)
  have HI := hid (toItemS_any vi its _ (hi.below hA) hli)
  have HP := hid fun W h => toStrs_any vp ts W h hlp
  have HRP := hid hp
  obtain ⟨ai, ci, rfl, _⟩ := hi
  obtain ⟨ap, cp, rfl, _⟩ := hp.form
  have HN1 := hid hN1
  have HN2 := hid hN2
  have HN3 := hid hN3
  have HA := hid hA
  clear hp hA hN1 hN2 hN3
  go_enter Tryz.func23, Tryz.ntmps23
  go_wp2_with fail
  refine HI.out.mono ?_
  rintro e w1 ⟨v1, rfl, ho1, hb1⟩
  have N1 := HN1.out.below hb1
  have N2 := HN2.out.below hb1
  have N3 := HN3.out.below hb1
  have B1 := HA.out.trans (hb1.mono (by simp; omega))
  obtain ⟨g, rfl, hg, hG⟩ := ho1
  rw [World.size_alloc, World.size_alloc, World.size_alloc] at hg
  have x2 : w1.cell? ⟨w.heap.size + 1 + 1, 2, none⟩ = some (.slice none 0 0) := N3.cell 2
  have x3 := N3.fz 2
  have M3 := N3.set 2 (.slice (some ⟨g, 0, none⟩) its.length its.length)
  have g1 := grownBy_setCellAt w1 (w.heap.size + 1 + 1) 2 (.slice (some ⟨g, 0, none⟩) its.length its.length)
  have M1 := N1.kept g1 (fun e => by simp at e; omega)
  have M2 := N2.kept g1 (fun e => by simp at e)
  have MG := hG.kept g1 (fun e => by simp at e; omega)
  have MB := B1.setCell (p := ⟨w.heap.size + 1 + 1, 2, none⟩) (by simp; omega) (.slice (some ⟨g, 0, none⟩) its.length its.length)
  have HP2 := hid (HP.out _ (HRP.out.below MB))
  have y3 : (w1.setCell ⟨w.heap.size + 1 + 1, 2, none⟩ (.slice (some ⟨g, 0, none⟩) its.length its.length)).cell? ⟨w.heap.size, 3, none⟩ = some (.slice ap ts.length cp) := M1.cell 3
  have hs1 := B1.size
  have hlt3 := N3.lt
  clear N1 N2 N3 B1 hb1 g1 hG
  go_wp2_with fail
  refine HP2.out.mono ?_
  rintro e w2 ⟨v2, rfl, ho2, hb2⟩
  obtain ⟨a2, c2, rfl, _⟩ := row_form ho2
  have K2 := M2.below hb2
  have K3 := M3.below hb2
  have KG := MG.below hb2
  have KB := MB.trans (hb2.mono MB.size)
  have hsz2 : w.heap.size + 1 + 1 < (w1.setCell ⟨w.heap.size + 1 + 1, 2, none⟩ (.slice (some ⟨g, 0, none⟩) its.length its.length)).heap.size := M3.lt
  have z2 : w2.cell? ⟨w.heap.size + 1 + 1, 3, none⟩ = some (.slice none 0 0) := K3.cell 3
  have z3 := K3.fz 3
  have L3 := K3.set 3 (.slice a2 ts.length c2)
  have g2 := grownBy_setCellAt w2 (w.heap.size + 1 + 1) 3 (.slice a2 ts.length c2)
  have L2 := K2.kept g2 (fun e => by simp at e)
  have LG := KG.kept g2 (fun e => by simp at e; omega)
  have LB := KB.setCell (p := ⟨w.heap.size + 1 + 1, 3, none⟩) (by simp; omega) (.slice a2 ts.length c2)
  have LO := row_kept ho2 g2 (by omega)
  have l0 : (w2.setCell ⟨w.heap.size + 1 + 1, 3, none⟩ (.slice a2 ts.length c2)).cell? ⟨w.heap.size + 1 + 1, 0, none⟩ = some (.int .i64 wd) := L3.cell 0
  have l1 : (w2.setCell ⟨w.heap.size + 1 + 1, 3, none⟩ (.slice a2 ts.length c2)).cell? ⟨w.heap.size + 1 + 1, 1, none⟩ = some (.int .i64 room) := L3.cell 1
  have l2 : (w2.setCell ⟨w.heap.size + 1 + 1, 3, none⟩ (.slice a2 ts.length c2)).cell? ⟨w.heap.size + 1 + 1, 2, none⟩ = some (.slice (some ⟨g, 0, none⟩) its.length its.length) := L3.cell 2
  have l3 : (w2.setCell ⟨w.heap.size + 1 + 1, 3, none⟩ (.slice a2 ts.length c2)).cell? ⟨w.heap.size + 1 + 1, 3, none⟩ = some (.slice a2 ts.length c2) := L3.cell 3
  have s := L2.store4 (.int .i64 wd) (.int .i64 room) (.slice (some ⟨g, 0, none⟩) its.length its.length) (.slice a2 ts.length c2)
  have s0 := s.a0; have s1 := s.a1; have s2 := s.a2; have s3 := s.a3
  have f0 := s.f0; have f1 := s.f1; have f2 := s.f2; have f3 := s.f3
  have Z := hid s.z
  have BB := hid ((((LB.setCell (p := ⟨w.heap.size + 1, 0, none⟩) (by simp) (.int .i64 wd)).setCell (p := ⟨w.heap.size + 1, 1, none⟩) (by simp) (.int .i64 room)).setCell (p := ⟨w.heap.size + 1, 2, none⟩) (by simp) (.slice (some ⟨g, 0, none⟩) its.length its.length)).setCell (p := ⟨w.heap.size + 1, 3, none⟩) (by simp) (.slice a2 ts.length c2))
  have OO := hid (row_kept (row_kept (row_kept (row_kept LO (grownBy_setCellAt _ (w.heap.size + 1) 0 (.int .i64 wd)) (by omega)) (grownBy_setCellAt _ (w.heap.size + 1) 1 (.int .i64 room)) (by omega)) (grownBy_setCellAt _ (w.heap.size + 1) 2 (.slice (some ⟨g, 0, none⟩) its.length its.length)) (by omega)) (grownBy_setCellAt _ (w.heap.size + 1) 3 (.slice a2 ts.length c2)) (by omega))
  have GG := hid ((((LG.kept (grownBy_setCellAt _ (w.heap.size + 1) 0 (.int .i64 wd)) (fun e => by simp at e; omega)).kept (grownBy_setCellAt _ (w.heap.size + 1) 1 (.int .i64 room)) (fun e => by simp at e; omega)).kept (grownBy_setCellAt _ (w.heap.size + 1) 2 (.slice (some ⟨g, 0, none⟩) its.length its.length)) (fun e => by simp at e; omega)).kept (grownBy_setCellAt _ (w.heap.size + 1) 3 (.slice a2 ts.length c2)) (fun e => by simp at e; omega))
  clear s K2 K3 KG KB g2 L2 LG LB LO ho2 hb2 L3 M1 M2 M3 MG MB x2 x3 y3 HP2
  go_wp2
  refine bodyPost_ret (v := .agg #[.int .i64 wd, .int .i64 room, .slice (some ⟨g, 0, none⟩) its.length its.length, .slice a2 ts.length c2]) (by simp [results, Tryz.results23, go_sem, Z.out.cell]) rfl ⟨_, _, rfl, ⟨g, rfl, by omega, GG.out⟩, ownsRow_base OO.out (by omega), BB.out⟩
set_option maxRecDepth 100000 in
set_option maxHeartbeats 400000 in
theorem eqStore_any (wd room : Int) (vi vp vj vq : Value) (its : Itms) (ts : List ByteArray) (w : World) (hi : RdI w vi its) (hp : Reads w vp ts) (hj : RdI w vj its) (hq : Reads w vq ts) (hli : its.length ≤ maxLen) (hlp : ts.length ≤ maxLen) :
    Calls Tryz.prog 29 #[.agg #[.int .i64 wd, .int .i64 room, vi, vp], .agg #[.int .i64 wd, .int .i64 room, vj, vq]] w fun e w' => e = .returned (.bool true) ∧ Below w.heap.size w w' := by
  have hA := ((Below.refl w.heap.size w).alloc (Nat.le_refl _) (.cells #[.int .i64 wd, .int .i64 room, vi, vp] 34)).alloc (by simp) (.cells #[.int .i64 wd, .int .i64 room, vj, vq] 34)
  have HE := hid (eqItemS_any vi vj its _ (hi.below hA) (hj.below hA) hli)
  have HF := hid fun W h k => eqStringS_any vp vq ts W h k hlp
  have HP := hid (hp.below hA)
  have HQ := hid (hq.below hA)
  have HN1 := hid ((Blk.new w 34 #[.int .i64 wd, .int .i64 room, vi, vp]).alloc (.cells #[.int .i64 wd, .int .i64 room, vj, vq] 34))
  have hN2 := Blk.new (w.alloc (.cells #[.int .i64 wd, .int .i64 room, vi, vp] 34)) 34 #[.int .i64 wd, .int .i64 room, vj, vq]
  rw [World.size_alloc] at hN2
  have HN2 := hid hN2
  obtain ⟨ai, ci, rfl, _⟩ := hi
  obtain ⟨aj, cj, rfl, _⟩ := hj
  obtain ⟨ap, cp, rfl, _⟩ := hp.form
  obtain ⟨aq, cq, rfl, _⟩ := hq.form
  have HA := hid hA
  clear hp hq hA hN2
  go_enter Tryz.func29, Tryz.ntmps29
  go_wp2_with fail
  refine HE.out.mono ?_
  rintro e w1 ⟨rfl, hb1⟩
  have c1 : w1.cell? ⟨w.heap.size, 3, none⟩ = some (.slice ap ts.length cp) := (HN1.out.below hb1).cell 3
  have c2 : w1.cell? ⟨w.heap.size + 1, 3, none⟩ = some (.slice aq ts.length cq) := (HN2.out.below hb1).cell 3
  have HF1 := hid (HF.out w1 (HP.out.below hb1) (HQ.out.below hb1))
  have HB := hid (HA.out.trans (hb1.mono (by simp; omega)))
  clear hb1
  go_wp2_with fail
  refine HF1.out.mono ?_
  rintro e w2 ⟨rfl, hb2⟩
  have HB2 := hid (HB.out.trans (hb2.mono HB.out.size))
  clear hb2
  go_wp2
  go_ret
  exact ⟨by simp, HB2.out⟩
end Go.Proofs.YtlnkhbnbcmllaaaGreat
