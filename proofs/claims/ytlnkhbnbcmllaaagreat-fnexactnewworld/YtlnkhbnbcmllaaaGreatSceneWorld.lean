/- (*impl.scene).world of a scene without flight. -/
import Derived.Test.YtlnkhbnbcmllaaaGreatSceneOpen
import Derived.Test.YtlnkhbnbcmllaaaGreatHuntFetch
import Derived.Test.YtlnkhbnbcmllaaaGreatWorldMark
import Derived.Test.YtlnkhbnbcmllaaaGreatSpecNew
namespace Go.Proofs.YtlnkhbnbcmllaaaGreat
open Go.RowKit
/-- Behind the first region: the world's variable, its fetch and its booleans. -/
def SceneCut (w1 : World) (nm : ByteArray) (now : Int) (full : Bool) (wd room : Int) (its : Itms) (ts : List ByteArray) (ps : Prs) (bs : List Bool) (wst : Int) (ob : Nat) (wx : World) : Prop := ∃ a1 c1 b1 d1 e1 f1 q1 a4 c4, Blk wx ob 42 #[.string nm, .int .i64 now, .bool full, .int .i64 wd, .int .i64 room, .slice a1 its.length c1, .slice b1 ts.length d1, .slice e1 q1.length f1, .slice a4 bs.length c4, .slice none 0 0, .slice none 0 0, .int .i64 wst] ∧ FetchOwn wx w1.heap.size (.slice a1 its.length c1) (.slice b1 ts.length d1) (.slice e1 q1.length f1) its ts q1 ∧ q1.map Prod.fst = ps ∧ wx.ownsRow w1.heap.size 4 1 (.slice a4 bs.length c4) bs.length (bs.map Value.bool) ∧ w1.heap.size ≤ ob ∧ Below w1.heap.size w1 wx
theorem fetch_besides {W W' : World} {B b : Nat} {T : TypeId} {cs : Array Value} {vi vp vq : Value} {its : Itms} {ts : List ByteArray} {qs : PV} (h : FetchOwn W B vi vp vq its ts qs) (hb : Blk W b T cs) (h1 : 84 ≠ T) (h2 : 9 ≠ T) (h3 : 81 ≠ T) (hg : W.grownBy W' (some b)) : FetchOwn W' B vi vp vq its ts qs :=
  h.same fun k hk => hg.block k (h.lt k hk).2 (fun e => by
    have e := Option.some.inj e
    subst e
    rcases hk with hf | hf | hf | ⟨i, hi, hf⟩
    · exact row_off_blk h.store.items hb h1 hf
    · exact row_off_blk h.store.pins hb h2 hf
    · exact row_off_blk h.peers.row hb h3 hf
    · exact row_off_blk (h.peers.nots i hi) hb h2 hf)
theorem fetch_stays {W W' : World} {B B' n s : Nat} {e : TypeId} {v vi vp vq : Value} {xs : List Value} {its : Itms} {ts : List ByteArray} {qs : PV} (h : FetchOwn W B vi vp vq its ts qs) (k : W.ownsRow B' e s v n xs) (h1 : 84 ≠ e) (h2 : 9 ≠ e) (h3 : 81 ≠ e) (hg : W.grownBy W' v.ownBlock) : FetchOwn W' B vi vp vq its ts qs :=
  h.same fun b hk => hg.block b (h.lt b hk).2 (fun e => by
    rcases hk with hf | hf | hf | ⟨i, hi, hf⟩
    · exact row_other h.store.items k h1 hf e.symm
    · exact row_other h.store.pins k h2 hf e.symm
    · exact row_other h.peers.row k h3 hf e.symm
    · exact row_other (h.peers.nots i hi) k h2 hf e.symm)
theorem pat_map (qs : PV) (i : Nat) (h : i < qs.length) : pat (qs.map Prod.fst) i = qp qs i := by simp [pat, qp, h]
/-- What lies in memory while stores are laid into a world. -/
structure SceneSt (w : World) (ob C : Nat) (nm : ByteArray) (now : Int) (full : Bool) (wd room wst : Int) (a1 : Option Addr) (c1 : Nat) (b1 : Option Addr) (d1 : Nat) (e1 : Option Addr) (f1 : Nat) (a4 : Option Addr) (c4 : Nat) (its : Itms) (ts : List ByteArray) (q1 : PV) (bs : List Bool) (done : Srs) (vt : Value) (os : SV) (W : World) : Prop where
  res : Blk W w.heap.size 42 #[.string ⟨#[]⟩, .int .i64 0, .bool false, .int .i64 0, .int .i64 0, .slice none 0 0, .slice none 0 0, .slice none 0 0, .slice none 0 0, .slice none 0 0, .slice none 0 0, .int .i64 0]
  box : Blk W ob 42 #[.string nm, .int .i64 now, .bool full, .int .i64 wd, .int .i64 room, .slice a1 its.length c1, .slice b1 ts.length d1, .slice e1 q1.length f1, .slice a4 bs.length c4, vt, .slice none 0 0, .int .i64 wst]
  fetch : FetchOwn W (w.heap.size + 1) (.slice a1 its.length c1) (.slice b1 ts.length d1) (.slice e1 q1.length f1) its ts q1
  bools : W.ownsRow (w.heap.size + 1) 4 1 (.slice a4 bs.length c4) bs.length (bs.map Value.bool)
  stores : StoresOwn W C vt os
  same : os.map Prod.fst = done
  below : Below w.heap.size w W
section
variable {w W W' : World} {ob C : Nat} {nm : ByteArray} {now : Int} {full : Bool} {wd room wst : Int} {a1 : Option Addr} {c1 : Nat} {b1 : Option Addr} {d1 : Nat} {e1 : Option Addr} {f1 : Nat} {a4 : Option Addr} {c4 : Nat} {its : Itms} {ts : List ByteArray} {q1 : PV} {bs : List Bool} {dn dn' : Srs} {vt vt' : Value} {os os' : SV}
theorem SceneSt.later (h : SceneSt w ob C nm now full wd room wst a1 c1 b1 d1 e1 f1 a4 c4 its ts q1 bs dn vt os W) (hb : Below W.heap.size W W') : SceneSt w ob C nm now full wd room wst a1 c1 b1 d1 e1 f1 a4 c4 its ts q1 bs dn vt os W' :=
  ⟨h.res.below hb, h.box.below hb, h.fetch.below hb, Below.row hb h.bools, h.stores.below hb, h.same, h.below.trans (hb.mono h.below.size)⟩
theorem SceneSt.put (h : SceneSt w ob C nm now full wd room wst a1 c1 b1 d1 e1 f1 a4 c4 its ts q1 bs dn vt os W) (hg : W.grownBy W' vt.ownBlock) (hs : StoresOwn W' C vt' os') (hm : os'.map Prod.fst = dn') (hC : w.heap.size + 1 ≤ C) (hob : w.heap.size < ob) : SceneSt w ob C nm now full wd room wst a1 c1 b1 d1 e1 f1 a4 c4 its ts q1 bs dn' vt' os' (W'.setCell ⟨ob, 9, none⟩ vt') := by
  have hz := h.res.lt
  have X := h.box.kept hg (fun e => row_off_blk h.stores.row h.box (by decide) e.symm)
  have R := h.res.kept hg (fun e => by have := (h.stores.row.lt _ e.symm).1; omega)
  have F := fetch_stays h.fetch h.stores.row (by decide) (by decide) (by decide) hg
  have U := row_stays h.bools h.stores.row (by decide) hg
  have hb : Below w.heap.size w W' := h.below.grown hg (by omega) (fun b e => by have := (h.stores.row.lt b e).1; omega)
  have G := grownBy_setCellAt W' ob 9 vt'
  exact ⟨R.kept G (fun e => by have := Option.some.inj e; omega), X.set 9 vt', fetch_besides F X (by decide) (by decide) (by decide) G, row_besides U X (by decide) G, hs.besides X (by decide) (by decide) (by decide) G, hm, hb.grown G (by have := R.lt; omega) (fun b e => by cases e; omega)⟩
end
/-- What world answers. -/
def WorldP (w : World) (nm : ByteArray) (now : Int) (full : Bool) (wd room : Int) (its : Itms) (ts : List ByteArray) (ps : Prs) (bs : List Bool) (ss : Srs) (wst : Int) (e : Ending) (w' : World) : Prop := ∃ vi vp vq vu vs qs os, e = .returned (wval nm now full wd room vi vp vq vu vs (.slice none 0 0) wst) ∧ qs.map Prod.fst = ps ∧ os.map Prod.fst = ss ∧ WorldOwn w' (w.heap.size + 1) vi vp vq vu vs its ts qs bs os ∧ Below w.heap.size w w'
theorem worldP_of {w : World} {nm : ByteArray} {now : Int} {full : Bool} {wd room : Int} {its : Itms} {ts : List ByteArray} {ps : Prs} {bs : List Bool} {ss : Srs} {wst : Int} {w' : World} {vi vp vq vu vs : Value} {qs : PV} {os : SV} (h1 : qs.map Prod.fst = ps) (h2 : os.map Prod.fst = ss) (h3 : WorldOwn w' (w.heap.size + 1) vi vp vq vu vs its ts qs bs os) (h4 : Below w.heap.size w w') : WorldP w nm now full wd room its ts ps bs ss wst (.returned (wval nm now full wd room vi vp vq vu vs (.slice none 0 0) wst)) w' := ⟨vi, vp, vq, vu, vs, qs, os, rfl, h1, h2, h3, h4⟩
set_option maxRecDepth 100000 in
set_option maxHeartbeats 16000000 in
theorem sceneWorld_any (cb : Nat) (nm : ByteArray) (now : Int) (full : Bool) (wd room : Int) (its : Itms) (ts : List ByteArray) (ps : Prs) (bs : List Bool) (ss : Srs) (wst : Int) (w : World) (hs : SceneRd w cb ⟨nm, now, full, wd, room, its, ts, ps, bs, ss, [], wst⟩) (hv : ValidF nm now wd room its ts ps) (hst : ∀ i, i < ss.length → ValidSt (sat ss i).wd (sat ss i).room (sat ss i).its (sat ss i).ts) (hnm : nm.size ≤ 1048576) (hsi : ∀ i, (itx its i).size ≤ 1048576) (hsp : ∀ i, (tv ts i).size ≤ 1048576) (hfs : SsFit 1048576 ss) (hpf : PsFit 1048576 ps) (hlb : bs.length ≤ 1000) (hls : ss.length ≤ 1000) :
    Calls Tryz.prog 26 #[.pointer (some ⟨cb, 0, none⟩)] w fun e w' => WorldP w nm now full wd room its ts ps bs ss wst e w' := by
  obtain ⟨hb, pm, sb, mb, vc, tot, qs, pbs, vu, vst, am, cm, sh, B, box, hunt, hqs, hbo, hrow, hshl, hsh⟩ := hs
  dsimp only at box hunt hqs hbo hrow hshl hsh
  obtain ⟨au, cu, rfl, _⟩ := id hbo
  obtain ⟨asx, csx, rfl⟩ := row_any hrow
  have hql : qs.length = ps.length := by rw [← hqs, List.length_map]
  have hpq : ∀ i, i < qs.length → PrFits 1048576 (qp qs i) := fun i hi => by have := hpf i (by omega); rw [← hqs, pat_map qs i hi] at this; exact this
  have HHF := hid fun (W : World) (h : Below w.heap.size w W) => huntFetch_any hb pm sb mb vc nm now full wd room tot its ts qs pbs _ _ W (hunt.below h) (ascI_of hv.store.each) (by have := hv.store.items; omega) (by have := hv.store.pins; omega) (by have := hv.count; omega) hsi hsp hnm hpq
  have HCB := hid fun (W : World) (h : Below w.heap.size w W) => cloneBools_any (.slice au bs.length cu) bs W (hbo.below h) (by omega)
  have HBX := hid box
  have HROW := hid hrow
  have HSH := hid hsh
  have HSL := hid hshl
  have HSV := hid hst
  have HFS := hid hfs
  have HQS := hid hqs
  have hA := (Below.refl w.heap.size w).alloc (Nat.le_refl _) (.cells #[.string ⟨#[]⟩, .int .i64 0, .bool false, .int .i64 0, .int .i64 0, .slice none 0 0, .slice none 0 0, .slice none 0 0, .slice none 0 0, .slice none 0 0, .slice none 0 0, .int .i64 0] 42)
  have hN := Blk.new w 42 #[.string ⟨#[]⟩, .int .i64 0, .bool false, .int .i64 0, .int .i64 0, .slice none 0 0, .slice none 0 0, .slice none 0 0, .slice none 0 0, .slice none 0 0, .slice none 0 0, .int .i64 0]
  obtain ⟨w1, hw1⟩ : ∃ x, x = w.alloc (.cells #[.string ⟨#[]⟩, .int .i64 0, .bool false, .int .i64 0, .int .i64 0, .slice none 0 0, .slice none 0 0, .slice none 0 0, .slice none 0 0, .slice none 0 0, .slice none 0 0, .int .i64 0] 42) := ⟨_, rfl⟩
  have hz1' : w1.heap.size = w.heap.size + 1 := by rw [hw1, World.size_alloc]
  rw [← hw1] at hA hN
  have HA := hid hA
  have HN := hid hN
  have hs1a : w.heap.size + 1 ≤ w1.heap.size := by omega
  have hs1b : w1.heap.size ≤ w.heap.size + 1 := by omega
  have HSF := hid fun (W : World) (h : Below w1.heap.size w1 W) => (show W.cell? ⟨cb, 0, none⟩ = some (.pointer (some ⟨hb, 0, none⟩)) ∧ W.cell? ⟨cb, 1, none⟩ = some (.slice au bs.length cu) ∧ W.cell? ⟨cb, 4, none⟩ = some (.int .i64 wst) from by
    have X := (HBX.out.below HA.out).below h
    exact ⟨X.cell 0, X.cell 1, X.cell 4⟩)
  have hbd : Below w1.heap.size w1 w1.drew := below_drewN (Below.refl _ _) 1
  have hS0 := HSF.out w1.drew hbd
  have hec1 := enters_of Tryz.func57 (by kernel_rfl) rfl
  have hec2 := enters_of Tryz.func54 (by kernel_rfl) rfl
  clear box hunt hbo hrow hsh hshl hst hqs hpq hpf hA hN hz1' hql hv hfs hsi hsp
  go_enter Tryz.func26, Tryz.ntmps26
  go_upto_region 1 with fail
  rw [← hw1]
  clear hw1
  go_cut [3] from 8 to 22 (fun s3 wx => ∃ ob, s3 = .pointer (some ⟨ob, 0, none⟩) ∧ SceneCut w1 nm now full wd room its ts ps bs wst ob wx)
  case first =>
    refine wp_region_held (S := fun w' => w'.cell? ⟨cb, 0, none⟩ = some (.pointer (some ⟨hb, 0, none⟩)) ∧ w'.cell? ⟨cb, 1, none⟩ = some (.slice au bs.length cu) ∧ w'.cell? ⟨cb, 4, none⟩ = some (.int .i64 wst)) (by kernel_rfl) ?_
    change wpAnyH _ _ _ _ _ _ _ _ (World.drew _)
    refine tkA 0 (.pointer (some ⟨cb, 0, none⟩)) rfl hS0 ?_
    refine tkA 1 (.pointer (some ⟨cb, 0, none⟩)) rfl hS0 ?_
    refine tkA 2 (.pointer (some ⟨cb, 0, none⟩)) rfl hS0 ?_
    refine tkA 3 (.pointer (some ⟨hb, 0, none⟩)) rfl hS0 ?_
    refine tkA 5 (.pointer (some ⟨cb, 0, none⟩)) rfl hS0 ?_
    refine tkA 6 (.pointer (some ⟨cb, 0, none⟩)) rfl hS0 ?_
    refine tkA 7 (.pointer (some ⟨cb, 1, none⟩)) rfl hS0 ?_
    refine tkA 8 (.slice au bs.length cu) rfl hS0 ?_
    refine tkA 10 (.pointer (some ⟨cb, 0, none⟩)) rfl hS0 ?_
    refine tkA 11 (.pointer (some ⟨cb, 0, none⟩)) rfl hS0 ?_
    refine tkA 12 (.pointer (some ⟨cb, 4, none⟩)) rfl hS0 ?_
    refine tkA 13 (.int .i64 wst) rfl hS0 ?_
    refine held_two 4 15 (by kernel_rfl) ?A ?B
    case A =>
      refine (op_calls (f := 57) (args := #[.pointer (some ⟨hb, 0, none⟩)]) rfl rfl (by go_simp) (HHF.out _ (HA.out.trans (hbd.mono HA.out.size))) ?_)
      rintro e w2 ⟨v1, p1, vq1, q1, rfl, hq1, fo1, hb1⟩
      obtain ⟨a1, c1, rfl⟩ := row_any fo1.store.items
      obtain ⟨b1, d1, rfl⟩ := row_any fo1.store.pins
      obtain ⟨e1, f1, rfl⟩ := row_any fo1.peers.row
      have B2 : Below w1.heap.size w1 w2 := hbd.trans (hb1.mono hbd.size)
      have hS2 := HSF.out w2 B2
      have hz2 := hbd.size
      refine ⟨_, rfl, hS2, ?_⟩
      refine held_two 9 15 (by kernel_rfl) ?A1 ?A2
      case A1 =>
        refine (op_calls (f := 54) (args := #[.slice au bs.length cu]) rfl rfl (by go_simp) (HCB.out _ (HA.out.trans (B2.mono HA.out.size))) ?_)
        rintro e w4 ⟨v4, rfl, o4, hb4⟩
        obtain ⟨a4, c4, rfl⟩ := row_any o4
        have B4 : Below w1.heap.size w1 w4 := B2.trans (hb4.mono B2.size)
        have hS4 := HSF.out w4 B4
        have hz4 := B2.size
        refine ⟨_, rfl, hS4, ?_⟩
        refine tkA 14 (.agg #[.string nm, .int .i64 now, .bool full, .int .i64 wd, .int .i64 room, .slice a1 its.length c1, .slice b1 ts.length d1, .slice e1 q1.length f1, .slice a4 bs.length c4, .slice none 0 0, .slice none 0 0, .int .i64 wst]) rfl hS4 ?_
        have hA5 := B4.alloc B4.size (.cells #[.string ⟨#[]⟩, .int .i64 0, .bool false, .int .i64 0, .int .i64 0, .slice none 0 0, .slice none 0 0, .slice none 0 0, .slice none 0 0, .slice none 0 0, .slice none 0 0, .int .i64 0] 42)
        have hA6 := B4.alloc B4.size (.cells #[.string nm, .int .i64 now, .bool full, .int .i64 wd, .int .i64 room, .slice a1 its.length c1, .slice b1 ts.length d1, .slice e1 q1.length f1, .slice a4 bs.length c4, .slice none 0 0, .slice none 0 0, .int .i64 wst] 42)
        have hS5 := HSF.out _ hA5
        have hS6 := HSF.out _ hA6
        have HBF := hid hA6
        have hAA := (Below.refl w4.heap.size w4).alloc (Nat.le_refl _) (.cells #[.string nm, .int .i64 now, .bool full, .int .i64 wd, .int .i64 room, .slice a1 its.length c1, .slice b1 ts.length d1, .slice e1 q1.length f1, .slice a4 bs.length c4, .slice none 0 0, .slice none 0 0, .int .i64 wst] 42)
        have HFO := hid (((fo1.base (by omega : w1.heap.size ≤ _)).below hb4).below hAA)
        have HO4 := hid (Below.row hAA (ownsRow_base2 o4 (by omega : w1.heap.size ≤ _)))
        have HZ := hid (Blk.new w4 42 #[.string nm, .int .i64 now, .bool full, .int .i64 wd, .int .i64 room, .slice a1 its.length c1, .slice b1 ts.length d1, .slice e1 q1.length f1, .slice a4 bs.length c4, .slice none 0 0, .slice none 0 0, .int .i64 wst])
        refine held_one 15 (by kernel_rfl) (op_value (v := .pointer (some ⟨w4.heap.size, 0, none⟩)) (w' := w4.alloc (.cells #[.string ⟨#[]⟩, .int .i64 0, .bool false, .int .i64 0, .int .i64 0, .slice none 0 0, .slice none 0 0, .slice none 0 0, .slice none 0 0, .slice none 0 0, .slice none 0 0, .int .i64 0] 42)) rfl rfl (by go_simp) ⟨hS5, ?_⟩)
        refine held_one 16 (by kernel_rfl) (op_skip (w' := w4.alloc (.cells #[.string nm, .int .i64 now, .bool full, .int .i64 wd, .int .i64 room, .slice a1 its.length c1, .slice b1 ts.length d1, .slice e1 q1.length f1, .slice a4 bs.length c4, .slice none 0 0, .slice none 0 0, .int .i64 wst] 42)) rfl rfl (by go_simp) ⟨hS6, wpAnyH_done (by kernel_rfl) ?_ _⟩)
        have hzz := B4.size
        clear hS0 hS2 hS4 hS5 hS6 hA5 hA6 hAA o4 hb4 hb1 fo1
        go_simp
        go_wp2_with fail
        go_meet
        exact ⟨_, rfl, a1, c1, b1, d1, e1, f1, q1, a4, c4, HZ.out, HFO.out, hq1.trans HQS.out, HO4.out, by omega, HBF.out⟩
      case A2 =>
        have hA4 := B2.alloc B2.size (.cells #[.string ⟨#[]⟩, .int .i64 0, .bool false, .int .i64 0, .int .i64 0, .slice none 0 0, .slice none 0 0, .slice none 0 0, .slice none 0 0, .slice none 0 0, .slice none 0 0, .int .i64 0] 42)
        have hS3 := HSF.out _ hA4
        have N2 := Blk.new w2 42 #[.string ⟨#[]⟩, .int .i64 0, .bool false, .int .i64 0, .int .i64 0, .slice none 0 0, .slice none 0 0, .slice none 0 0, .slice none 0 0, .slice none 0 0, .slice none 0 0, .int .i64 0]
        refine op_value (v := .pointer (some ⟨w2.heap.size, 0, none⟩)) (w' := w2.alloc (.cells #[.string ⟨#[]⟩, .int .i64 0, .bool false, .int .i64 0, .int .i64 0, .slice none 0 0, .slice none 0 0, .slice none 0 0, .slice none 0 0, .slice none 0 0, .slice none 0 0, .int .i64 0] 42)) rfl rfl (by go_simp) ⟨hS3, ?_⟩
        have hz3 := B2.size
        refine held_one 9 (by kernel_rfl) (op_calls (f := 54) (args := #[.slice au bs.length cu]) rfl rfl (by go_simp) (HCB.out _ (HA.out.trans (hA4.mono HA.out.size))) ?_)
        rintro e w4 ⟨v4, rfl, o4, hb4⟩
        obtain ⟨a4, c4, rfl⟩ := row_any o4
        have B4 : Below w1.heap.size w1 w4 := hA4.trans (hb4.mono hA4.size)
        have hS4 := HSF.out w4 B4
        have hz4 := hA4.size
        refine ⟨_, rfl, hS4, ?_⟩
        refine tkA 14 (.agg #[.string nm, .int .i64 now, .bool full, .int .i64 wd, .int .i64 room, .slice a1 its.length c1, .slice b1 ts.length d1, .slice e1 q1.length f1, .slice a4 bs.length c4, .slice none 0 0, .slice none 0 0, .int .i64 wst]) rfl hS4 ?_
        have N5 := N2.below hb4
        have s12 := N5.store12 (.string nm) (.int .i64 now) (.bool full) (.int .i64 wd) (.int .i64 room) (.slice a1 its.length c1) (.slice b1 ts.length d1) (.slice e1 q1.length f1) (.slice a4 bs.length c4) (.slice none 0 0) (.slice none 0 0) (.int .i64 wst)
        obtain ⟨y0, k0, y1, k1, y2, k2, y3, k3, y4, k4, y5, k5, y6, k6, y7, k7, y8, k8, y9, k9, y10, k10, y11, k11⟩ := s12
        have HZ := hid (N5.set12 (.string nm) (.int .i64 now) (.bool full) (.int .i64 wd) (.int .i64 room) (.slice a1 its.length c1) (.slice b1 ts.length d1) (.slice e1 q1.length f1) (.slice a4 bs.length c4) (.slice none 0 0) (.slice none 0 0) (.int .i64 wst))
        have G8 := grown_set12 w4 w2.heap.size (.string nm) (.int .i64 now) (.bool full) (.int .i64 wd) (.int .i64 room) (.slice a1 its.length c1) (.slice b1 ts.length d1) (.slice e1 q1.length f1) (.slice a4 bs.length c4) (.slice none 0 0) (.slice none 0 0) (.int .i64 wst)
        have BF := below_set12 B4 (b := w2.heap.size) (by omega) (Nat.le_refl _) (.string nm) (.int .i64 now) (.bool full) (.int .i64 wd) (.int .i64 room) (.slice a1 its.length c1) (.slice b1 ts.length d1) (.slice e1 q1.length f1) (.slice a4 bs.length c4) (.slice none 0 0) (.slice none 0 0) (.int .i64 wst)
        have hS6 := HSF.out _ BF
        have HBF := hid BF
        have HFO := hid (fetch_besides (((fo1.base (by omega : w1.heap.size ≤ _)).below ((Below.refl w2.heap.size w2).alloc (Nat.le_refl _) (.cells #[.string ⟨#[]⟩, .int .i64 0, .bool false, .int .i64 0, .int .i64 0, .slice none 0 0, .slice none 0 0, .slice none 0 0, .slice none 0 0, .slice none 0 0, .slice none 0 0, .int .i64 0] 42))).below hb4) N5 (by decide) (by decide) (by decide) G8)
        have HO4 := hid (row_besides (ownsRow_base2 o4 (by omega : w1.heap.size ≤ _)) N5 (by decide) G8)
        refine held_one 16 (by kernel_rfl) (op_skip (w' := set12 w4 w2.heap.size (.string nm) (.int .i64 now) (.bool full) (.int .i64 wd) (.int .i64 room) (.slice a1 its.length c1) (.slice b1 ts.length d1) (.slice e1 q1.length f1) (.slice a4 bs.length c4) (.slice none 0 0) (.slice none 0 0) (.int .i64 wst)) rfl rfl (by unfold set12; go_simp) ⟨hS6, wpAnyH_done (by kernel_rfl) ?_ _⟩)
        clear hS0 hS2 hS3 hS4 hS6 hA4 BF G8 N2 N5 o4 hb4 hb1 fo1 y0 k0 y1 k1 y2 k2 y3 k3 y4 k4 y5 k5 y6 k6 y7 k7 y8 k8 y9 k9 y10 k10 y11 k11
        go_simp
        go_wp2_with fail
        go_meet
        exact ⟨_, rfl, a1, c1, b1, d1, e1, f1, q1, a4, c4, HZ.out, HFO.out, hq1.trans HQS.out, HO4.out, by omega, HBF.out⟩
    case B =>
      have hA4 : Below w1.heap.size w1 (w1.alloc (.cells #[.string ⟨#[]⟩, .int .i64 0, .bool false, .int .i64 0, .int .i64 0, .slice none 0 0, .slice none 0 0, .slice none 0 0, .slice none 0 0, .slice none 0 0, .slice none 0 0, .int .i64 0] 42)).drew := below_drewN ((Below.refl w1.heap.size w1).alloc (Nat.le_refl _) (.cells #[.string ⟨#[]⟩, .int .i64 0, .bool false, .int .i64 0, .int .i64 0, .slice none 0 0, .slice none 0 0, .slice none 0 0, .slice none 0 0, .slice none 0 0, .slice none 0 0, .int .i64 0] 42)) 1
      have hS3 := HSF.out _ hA4
      have N2 := Blk.new w1 42 #[.string ⟨#[]⟩, .int .i64 0, .bool false, .int .i64 0, .int .i64 0, .slice none 0 0, .slice none 0 0, .slice none 0 0, .slice none 0 0, .slice none 0 0, .slice none 0 0, .int .i64 0]
      refine op_value (v := .pointer (some ⟨w1.heap.size, 0, none⟩)) (w' := (w1.alloc (.cells #[.string ⟨#[]⟩, .int .i64 0, .bool false, .int .i64 0, .int .i64 0, .slice none 0 0, .slice none 0 0, .slice none 0 0, .slice none 0 0, .slice none 0 0, .slice none 0 0, .int .i64 0] 42)).drew) rfl rfl (by go_simp) ⟨hS3, ?_⟩
      refine held_one 4 (by kernel_rfl) (op_calls (f := 57) (args := #[.pointer (some ⟨hb, 0, none⟩)]) rfl rfl (by go_simp) (HHF.out _ (HA.out.trans (hA4.mono HA.out.size))) ?_)
      rintro e w2 ⟨v1, p1, vq1, q1, rfl, hq1, fo1, hb1⟩
      obtain ⟨a1, c1, rfl⟩ := row_any fo1.store.items
      obtain ⟨b1, d1, rfl⟩ := row_any fo1.store.pins
      obtain ⟨e1, f1, rfl⟩ := row_any fo1.peers.row
      have B2 : Below w1.heap.size w1 w2 := hA4.trans (hb1.mono hA4.size)
      have hS2 := HSF.out w2 B2
      have hz2 := hA4.size
      have N3 : Blk w2 w1.heap.size 42 #[.string ⟨#[]⟩, .int .i64 0, .bool false, .int .i64 0, .int .i64 0, .slice none 0 0, .slice none 0 0, .slice none 0 0, .slice none 0 0, .slice none 0 0, .slice none 0 0, .int .i64 0] := (hb1.block _ N2.lt).trans N2
      refine ⟨_, rfl, hS2, ?_⟩
      refine held_one 9 (by kernel_rfl) (op_calls (f := 54) (args := #[.slice au bs.length cu]) rfl rfl (by go_simp) (HCB.out _ (HA.out.trans (B2.mono HA.out.size))) ?_)
      rintro e w4 ⟨v4, rfl, o4, hb4⟩
      obtain ⟨a4, c4, rfl⟩ := row_any o4
      have B4 : Below w1.heap.size w1 w4 := B2.trans (hb4.mono B2.size)
      have hS4 := HSF.out w4 B4
      have hz4 := B2.size
      refine ⟨_, rfl, hS4, ?_⟩
      refine tkA 14 (.agg #[.string nm, .int .i64 now, .bool full, .int .i64 wd, .int .i64 room, .slice a1 its.length c1, .slice b1 ts.length d1, .slice e1 q1.length f1, .slice a4 bs.length c4, .slice none 0 0, .slice none 0 0, .int .i64 wst]) rfl hS4 ?_
      have N5 := N3.below hb4
      have s12 := N5.store12 (.string nm) (.int .i64 now) (.bool full) (.int .i64 wd) (.int .i64 room) (.slice a1 its.length c1) (.slice b1 ts.length d1) (.slice e1 q1.length f1) (.slice a4 bs.length c4) (.slice none 0 0) (.slice none 0 0) (.int .i64 wst)
      obtain ⟨y0, k0, y1, k1, y2, k2, y3, k3, y4, k4, y5, k5, y6, k6, y7, k7, y8, k8, y9, k9, y10, k10, y11, k11⟩ := s12
      have HZ := hid (N5.set12 (.string nm) (.int .i64 now) (.bool full) (.int .i64 wd) (.int .i64 room) (.slice a1 its.length c1) (.slice b1 ts.length d1) (.slice e1 q1.length f1) (.slice a4 bs.length c4) (.slice none 0 0) (.slice none 0 0) (.int .i64 wst))
      have G8 := grown_set12 w4 w1.heap.size (.string nm) (.int .i64 now) (.bool full) (.int .i64 wd) (.int .i64 room) (.slice a1 its.length c1) (.slice b1 ts.length d1) (.slice e1 q1.length f1) (.slice a4 bs.length c4) (.slice none 0 0) (.slice none 0 0) (.int .i64 wst)
      have BF := below_set12 B4 (b := w1.heap.size) (by omega) (Nat.le_refl _) (.string nm) (.int .i64 now) (.bool full) (.int .i64 wd) (.int .i64 room) (.slice a1 its.length c1) (.slice b1 ts.length d1) (.slice e1 q1.length f1) (.slice a4 bs.length c4) (.slice none 0 0) (.slice none 0 0) (.int .i64 wst)
      have hS6 := HSF.out _ BF
      have HBF := hid BF
      have HFO := hid (fetch_besides ((fo1.base (by omega : w1.heap.size ≤ _)).below hb4) N5 (by decide) (by decide) (by decide) G8)
      have HO4 := hid (row_besides (ownsRow_base2 o4 (by omega : w1.heap.size ≤ _)) N5 (by decide) G8)
      refine held_one 16 (by kernel_rfl) (op_skip (w' := set12 w4 w1.heap.size (.string nm) (.int .i64 now) (.bool full) (.int .i64 wd) (.int .i64 room) (.slice a1 its.length c1) (.slice b1 ts.length d1) (.slice e1 q1.length f1) (.slice a4 bs.length c4) (.slice none 0 0) (.slice none 0 0) (.int .i64 wst)) rfl rfl (by unfold set12; go_simp) ⟨hS6, wpAnyH_done (by kernel_rfl) ?_ _⟩)
      clear hS0 hS2 hS3 hS4 hS6 hA4 BF G8 N2 N3 N5 o4 hb4 hb1 fo1 y0 k0 y1 k1 y2 k2 y3 k3 y4 k4 y5 k5 y6 k6 y7 k7 y8 k8 y9 k9 y10 k10 y11 k11
      go_simp
      go_wp2_with fail
      go_meet
      exact ⟨_, rfl, a1, c1, b1, d1, e1, f1, q1, a4, c4, HZ.out, HFO.out, hq1.trans HQS.out, HO4.out, by omega, HBF.out⟩
  case rest =>
    obtain ⟨w5, hw5⟩ : ∃ x, x = wc := ⟨_, rfl⟩
    subst hw5
    obtain ⟨ob, rfl, a1, c1, b1, d1, e1, f1, q1, a4, c4, hox, hfo, hq1, hbo, hob, hb5⟩ := hcut
    have hBW := HA.out.trans (hb5.mono HA.out.size)
    have X5 := HBX.out.below hBW
    have x2 : w5.cell? ⟨cb, 2, none⟩ = some (.slice asx ss.length csx) := X5.cell 2
    have HQ1 := hid hq1
    have HFL := hid fun b (h : FBlk (.slice a1 its.length c1) (.slice b1 ts.length d1) (.slice e1 q1.length f1) q1 b) => (hfo.lt b h).2
    have HST5 : Hid (SceneSt w ob w5.heap.size nm now full wd room wst a1 c1 b1 d1 e1 f1 a4 c4 its ts q1 bs (ss.take 0) (.slice none 0 0) [] w5) := hid ⟨(HN.out.below hb5), hox, hfo.base (by omega), ownsRow_base2 hbo (by omega), StoresOwn.none _ _, rfl, hBW⟩
    have hzo := hox.lt
    have HKO := hid keysOK
    clear hox hfo hq1 hbo hb5 X5 HN HCB HHF HSF hS0 hbd
    go_wp2
    clear x2
    go_loopw [28] (fun i' wr => ∃ (k : Nat) (vt : Value) (os : SV), i' = .int .i64 k ∧ k ≤ ss.length ∧ w5.heap.size ≤ wr.heap.size ∧ SceneSt w ob w5.heap.size nm now full wd room wst a1 c1 b1 d1 e1 f1 a4 c4 its ts q1 bs (ss.take k) vt os wr) (fun i' _ => ss.length - (intOf i').toNat)
    case atStart => exact ⟨0, _, [], rfl, Nat.zero_le _, Nat.le_refl _, HST5.out⟩
    case round =>
      obtain ⟨k, vt, os, rfl, hk, hsz, hst⟩ := hrel
      obtain ⟨at', ct, rfl⟩ := row_any hst.stores.row
      have hosl : os.length = k := by have := congrArg List.length hst.same; simp at this; omega
      have hol1 : os.length ≤ k := by omega
      have hol2 : k ≤ os.length := by omega
      clear hosl
      by_cases hlt : k < ss.length
      case neg =>
        obtain rfl : k = ss.length := by omega
        have x3 : wr.cell? ⟨cb, 3, none⟩ = some (.slice am 0 cm) := (HBX.out.below hst.below).cell 3
        have HST := hid hst
        have HSE : Hid (os.map Prod.fst = ss) := hid (by rw [hst.same, List.take_length])
        clear hst
        go_wp2
        clear x3
        obtain ⟨wo, rfl⟩ : ∃ x, x = wr := ⟨_, rfl⟩
        go_loopw [45] (fun i' wy => i' = .int .i64 0 ∧ Hid (wy = wo)) (fun _ _ => 0)
        case atStart => exact ⟨rfl, rfl⟩
        case round =>
          obtain ⟨rfl, hwy⟩ := hrel
          have hwy := hwy.out
          subst hwy
          go_upto_region 13 with fail
          obtain ⟨y0, y1, y2, y3, y4, y5, y6, y7, y8, y9, y10, y11⟩ : wr.cell? ⟨ob, 0, none⟩ = some (.string nm) ∧ wr.cell? ⟨ob, 1, none⟩ = some (.int .i64 now) ∧ wr.cell? ⟨ob, 2, none⟩ = some (.bool full) ∧ wr.cell? ⟨ob, 3, none⟩ = some (.int .i64 wd) ∧ wr.cell? ⟨ob, 4, none⟩ = some (.int .i64 room) ∧ wr.cell? ⟨ob, 5, none⟩ = some (.slice a1 its.length c1) ∧ wr.cell? ⟨ob, 6, none⟩ = some (.slice b1 ts.length d1) ∧ wr.cell? ⟨ob, 7, none⟩ = some (.slice e1 q1.length f1) ∧ wr.cell? ⟨ob, 8, none⟩ = some (.slice a4 bs.length c4) ∧ wr.cell? ⟨ob, 9, none⟩ = some (.slice at' os.length ct) ∧ wr.cell? ⟨ob, 10, none⟩ = some (.slice none 0 0) ∧ wr.cell? ⟨ob, 11, none⟩ = some (.int .i64 wst) := ⟨HST.out.box.cell 0, HST.out.box.cell 1, HST.out.box.cell 2, HST.out.box.cell 3, HST.out.box.cell 4, HST.out.box.cell 5, HST.out.box.cell 6, HST.out.box.cell 7, HST.out.box.cell 8, HST.out.box.cell 9, HST.out.box.cell 10, HST.out.box.cell 11⟩
          have s12 := HST.out.res.store12 (.string nm) (.int .i64 now) (.bool full) (.int .i64 wd) (.int .i64 room) (.slice a1 its.length c1) (.slice b1 ts.length d1) (.slice e1 q1.length f1) (.slice a4 bs.length c4) (.slice at' os.length ct) (.slice none 0 0) (.int .i64 wst)
          have ZZ := hid (HST.out.res.set12 (.string nm) (.int .i64 now) (.bool full) (.int .i64 wd) (.int .i64 room) (.slice a1 its.length c1) (.slice b1 ts.length d1) (.slice e1 q1.length f1) (.slice a4 bs.length c4) (.slice at' os.length ct) (.slice none 0 0) (.int .i64 wst))
          have BB := hid (below_set12 HST.out.below (b := w.heap.size) (Nat.le_refl _) (Nat.le_refl _) (.string nm) (.int .i64 now) (.bool full) (.int .i64 wd) (.int .i64 room) (.slice a1 its.length c1) (.slice b1 ts.length d1) (.slice e1 q1.length f1) (.slice a4 bs.length c4) (.slice at' os.length ct) (.slice none 0 0) (.int .i64 wst))
          have GG := hid (grown_set12 wr w.heap.size (.string nm) (.int .i64 now) (.bool full) (.int .i64 wd) (.int .i64 room) (.slice a1 its.length c1) (.slice b1 ts.length d1) (.slice e1 q1.length f1) (.slice a4 bs.length c4) (.slice at' os.length ct) (.slice none 0 0) (.int .i64 wst))
          obtain ⟨z0, k0, z1, k1, z2, k2, z3, k3, z4, k4, z5, k5, z6, k6, z7, k7, z8, k8, z9, k9, z10, k10, z11, k11⟩ := s12
          go_wp2
          rw [set12_def]
          exact bodyPost_ret (v := .agg #[.string nm, .int .i64 now, .bool full, .int .i64 wd, .int .i64 room, .slice a1 its.length c1, .slice b1 ts.length d1, .slice e1 q1.length f1, .slice a4 bs.length c4, .slice at' os.length ct, .slice none 0 0, .int .i64 wst]) (by simp [results, Tryz.results26, go_sem, ZZ.out.cell]) rfl (worldP_of HQ1.out HSE.out ⟨fetch_besides HST.out.fetch HST.out.res (by decide) (by decide) (by decide) GG.out, row_besides HST.out.bools HST.out.res (by decide) GG.out, (HST.out.stores.besides HST.out.res (by decide) (by decide) (by decide) GG.out).base (by omega), fun b hf ht => by have h1 := HFL.out b hf; have h2 := (HST.out.stores.lt b ht).1; omega⟩ BB.out)
      obtain ⟨gx, kx, ex, hgx, hgxl⟩ := World.ownsRow.form HROW.out (by omega)
      obtain ⟨rfl, _, rfl⟩ : asx = some ⟨gx, 0, none⟩ ∧ ss.length = ss.length ∧ csx = kx := Value.slice.inj ex
      clear ex
      obtain ⟨tr, htr⟩ : ∃ t, t = sh.getD k sh0 := ⟨_, rfl⟩
      have HOK := hid (HSH.out k (by rw [HSL.out]; exact hlt))
      have xp : wr.cell? ⟨gx, k, none⟩ = some (shp tr) := (hst.below.cell (p := ⟨gx, k, none⟩) (HROW.out.lt gx rfl).2).trans (by rw [HROW.out.cellAt k (by omega), List.getElem?_map, htr]; simp [show k < sh.length by rw [HSL.out]; exact hlt])
      rw [← htr] at HOK
      clear htr hgx hgxl
      obtain ⟨sb2, mb2, vc2⟩ := tr
      have hfk := HFS.out k hlt
      have hvk := HSV.out k hlt
      have HSS := hid fun (W : World) (h : Below w.heap.size w W) => shelfStore_any keysOK sb2 mb2 (sat ss k).its.length vc2 (sat ss k).wd (sat ss k).room _ (sat ss k).its (sat ss k).ts (mapI (sat ss k).wd (sat ss k).its (sat ss k).its.length) W (Blk.below HOK.out.box h) (World.ownsMap.kept HOK.out.map (grown_of_below h) (by simp)) (mapI_tidy _ _ _) (ascI_of hvk.each).lt (fun x => (mapI_all _ _ x).symm) (fun j hj z => mapI_at _ _ (ascI_of hvk.each).lt z _ (Nat.le_refl _) j hj) ((Reads.of_row HOK.out.row).below h) hfk.its hfk.ts hfk.tach hfk.each
      have HSN : Hid (∀ (w6 : World) (v' vi' vp' : Value) (W : World), StoresOwn W w5.heap.size (.slice at' os.length ct) os → W.grownBy w6 (Value.slice at' os.length ct).ownBlock → w6.ownsRow w5.heap.size 34 4 v' (os.length + 1) (cellsT os ++ [.int .i64 (sat ss k).wd, .int .i64 (sat ss k).room, vi', vp']) → StoreOwn W w5.heap.size vi' vp' (sat ss k).its (sat ss k).ts → (∀ j, j < os.length → ∀ g, (sti os j).ownBlock = some g → vi'.ownBlock ≠ some g) → (∀ j, j < os.length → ∀ g, (stq os j).ownBlock = some g → vp'.ownBlock ≠ some g) → ∃ o' : SV, StoresOwn w6 w5.heap.size v' o' ∧ o'.map Prod.fst = ss.take (k + 1)) := fun w6 v' vi' vp' W h1 h2 h3 h4 h5 h6 => ⟨os ++ [(sat ss k, vi', vp')], h1.snoc h2 h3 h4 h5 h6, by rw [List.map_append, hst.same, List.take_succ_eq_append_getElem hlt]; simp [sat, hlt]⟩
      clear hfk hvk HOK
      generalize sat ss k = pr at *
      obtain ⟨pw, prm, pi, pt⟩ := pr
      dsimp only [shp] at HSS HSN xp
      obtain ⟨wx, hwx⟩ : ∃ x, x = wr.drew := ⟨_, rfl⟩
      have hbx : Below wr.heap.size wr wx := by rw [hwx]; exact below_drewN (Below.refl _ _) 1
      have HSX := hid (hst.later hbx)
      have hSx : wx.cell? ⟨ob, 9, none⟩ = some (.slice at' os.length ct) := HSX.out.box.cell 9
      have hszx := Nat.le_trans hsz hbx.size
      clear hst hbx
      go_upto_region 5 with fail
      clear xp
      refine wp_region_last 7 (S := fun w' => w'.cell? ⟨ob, 9, none⟩ = some (.slice at' os.length ct)) (by kernel_rfl) ?_
      change wpAnyC _ _ _ _ _ _ _ _ _ (World.drew _)
      rw [← hwx]
      clear hwx
      refine tkL 0 (.pointer (some ⟨ob, 9, none⟩)) rfl hSx ?_
      refine tkL 1 (.slice at' os.length ct) rfl hSx ?_
      refine tkL 2 (.pointer (some ⟨sb2, 0, none⟩)) rfl hSx ?_
      refine last_one 3 (by kernel_rfl) (op_calls (f := 58) (args := #[.pointer (some ⟨sb2, 0, none⟩)]) rfl rfl (by go_simp) (HSS.out wx HSX.out.below) ?_)
      rintro e w11 ⟨vi', vp', rfl, oi, op, hap, hb11⟩
      obtain ⟨a11, c11, rfl⟩ := row_any oi
      obtain ⟨b11, d11, rfl⟩ := row_any op
      have S11 := HSX.out.later hb11
      have hz11 := hb11.size
      have so : StoreOwn w11 w5.heap.size (.slice a11 pi.length c11) (.slice b11 pt.length d11) pi pt := ⟨ownsRow_base2 oi (by omega), ownsRow_base2 op (by omega), hap⟩
      have hS11 : w11.cell? ⟨ob, 9, none⟩ = some (.slice at' os.length ct) := S11.box.cell 9
      have hfi : ∀ j, j < os.length → ∀ g, (sti os j).ownBlock = some g → (Value.slice a11 pi.length c11).ownBlock ≠ some g := fun j hj g e1 e2 => by have h1 := ((HSX.out.stores.each j hj).items.lt g e1).2; have h2 := (oi.lt g e2).1; omega
      have hfp : ∀ j, j < os.length → ∀ g, (stq os j).ownBlock = some g → (Value.slice b11 pt.length d11).ownBlock ≠ some g := fun j hj g e1 e2 => by have h1 := ((HSX.out.stores.each j hj).pins.lt g e1).2; have h2 := (op.lt g e2).1; omega
      refine ⟨_, rfl, fun _ => hS11, ?_⟩
      have hA12 := (Below.refl w11.heap.size w11).alloc (Nat.le_refl _) (.cells #[.int .i64 pw, .int .i64 prm, .slice a11 pi.length c11, .slice b11 pt.length d11] 34)
      have S12 := S11.later hA12
      have so12 := so.below hA12
      have E12 := Blk.new w11 34 #[.int .i64 pw, .int .i64 prm, .slice a11 pi.length c11, .slice b11 pt.length d11]
      have hS12 : (w11.alloc (.cells #[.int .i64 pw, .int .i64 prm, .slice a11 pi.length c11, .slice b11 pt.length d11] 34)).cell? ⟨ob, 9, none⟩ = some (.slice at' os.length ct) := S12.box.cell 9
      have hz12 := hA12.size
      refine last_one 4 (by kernel_rfl) (op_value (v := .slice (some ⟨w11.heap.size, 0, none⟩) 1 1) (w' := w11.alloc (.cells #[.int .i64 pw, .int .i64 prm, .slice a11 pi.length c11, .slice b11 pt.length d11] 34)) rfl rfl (by go_simp) ⟨fun _ => hS12, ?_⟩)
      generalize w11.alloc (.cells #[.int .i64 pw, .int .i64 prm, .slice a11 pi.length c11, .slice b11 pt.length d11] 34) = w12 at *
      have hz13 : w5.heap.size ≤ w12.heap.size := by omega
      generalize w11.heap.size = eb at *
      clear hA12 S11 hS11 hb11 oi op hap so hSx
      refine last_one 5 (by kernel_rfl) (op_wp rfl rfl (wp_append_store (.tmp 33) (.tmp 36) rfl w5.heap.size (.slice at' os.length ct) os.length (cellsT os) (by go_simp) S12.stores.row eb pw prm (.slice a11 pi.length c11) (.slice b11 pt.length d11) (by go_simp) E12 rfl rfl (by omega) hz13 ?_))
      intro v13 w13 ho13 hg13
      obtain ⟨o', s13, hm13⟩ := HSN.out w13 v13 _ _ w12 S12.stores hg13 ho13 so12 hfi hfp
      obtain ⟨a13, c13, rfl⟩ := row_any s13.row
      have X13 := S12.box.kept hg13 (fun e => row_off_blk S12.stores.row S12.box (by decide) e.symm)
      have hS13 : w13.cell? ⟨ob, 9, none⟩ = some (.slice at' os.length ct) := X13.cell 9
      refine ⟨fun _ => hS13, ?_⟩
      refine tkL 6 (.pointer (some ⟨ob, 9, none⟩)) rfl hS13 ?_
      have f13 := X13.fz 9
      have HE := hid (S12.put hg13 s13 hm13 (by omega) (by omega))
      have hz14 := hg13.size
      have hz15 := (grownBy_setCellAt w13 ob 9 (.slice a13 o'.length c13)).size
      clear hS12 S12 so12 E12 hfi hfp ho13 hg13 s13 hm13 X13
      refine last_one 7 (by kernel_rfl) (op_skip (w' := w13.setCell ⟨ob, 9, none⟩ (.slice a13 o'.length c13)) rfl rfl (by go_simp) ⟨fun h => absurd rfl h, last_done (by kernel_rfl) ?_ _⟩)
      clear hS13 f13
      go_simp
      go_wp2
      exact ⟨⟨k + 1, _, o', by go_num, by omega, by omega, HE.out⟩, by simp [intOf]; omega⟩
end Go.Proofs.YtlnkhbnbcmllaaaGreat
