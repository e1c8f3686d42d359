import Derived.Test.YtbihndholamdfaaGreatDoorShort
import Derived.Test.YtbihndholamdfaaGreatDoorStoreSpec
import Derived.Test.YtbihndholamdfaaGreatDoorToItems
/- Peers: five cells a peer. Fetches as arguments: whether two are the same. -/
namespace Go.Proofs.YtbihndholamdfaaGreatDoor
open Go.RowKit
structure Pr where
 lies : Int
 wait : Int
 last : Int
 asked : ByteArray
 nots : List ByteArray
abbrev Prs := List Pr
def pr0 : Pr := ⟨0, 0, 0, ByteArray.empty, []⟩
def pat (ps : Prs) (i : Nat) : Pr := ps.getD i pr0
/-- Five cells that read as a peer. -/
structure Pr5 (w : World) (b o : Nat) (vn : Value) (p : Pr) : Prop where
 lt : b < w.heap.size
 c0 : w.cell? ⟨b, o, none⟩ = some (.int .i64 p.lies)
 c1 : w.cell? ⟨b, o + 1, none⟩ = some (.int .i64 p.wait)
 c2 : w.cell? ⟨b, o + 2, none⟩ = some (.int .i64 p.last)
 c3 : w.cell? ⟨b, o + 3, none⟩ = some (.string p.asked)
 c4 : w.cell? ⟨b, o + 4, none⟩ = some vn
 rd : Reads w vn p.nots
theorem Pr5.below {w w' : World} {b o : Nat} {vn : Value} {p : Pr} (h : Pr5 w b o vn p) (hb : Below w.heap.size w w') : Pr5 w' b o vn p :=
 ⟨Nat.lt_of_lt_of_le h.lt hb.size, (hb.cell (p := ⟨b, o, none⟩) h.lt).trans h.c0, (hb.cell (p := ⟨b, o + 1, none⟩) h.lt).trans h.c1, (hb.cell (p := ⟨b, o + 2, none⟩) h.lt).trans h.c2, (hb.cell (p := ⟨b, o + 3, none⟩) h.lt).trans h.c3, (hb.cell (p := ⟨b, o + 4, none⟩) h.lt).trans h.c4, h.rd.below hb⟩
/-- A slice that reads as a list of peers. -/
def RdP (w : World) (v : Value) (ps : Prs) : Prop :=
 ∃ a cap, v = .slice a ps.length cap ∧ ∀ i, i < ps.length → ∃ b off vn, a = some ⟨b, off, none⟩ ∧ Pr5 w b (off + i * 5) vn (pat ps i)
theorem RdP.below {w w' : World} {v : Value} {ps : Prs} (h : RdP w v ps) (hb : Below w.heap.size w w') : RdP w' v ps := by
 obtain ⟨a, cap, e, hc⟩ := h
 refine ⟨a, cap, e, fun i hi => ?_⟩
 obtain ⟨b, off, vn, ha, h5⟩ := hc i hi
 exact ⟨b, off, vn, ha, h5.below hb⟩
/-- Texts of bounded size and number. -/
structure PrFits (n : Nat) (p : Pr) : Prop where
 asked : p.asked.size ≤ n
 nots : p.nots.length ≤ n
 each : ∀ i, (tv p.nots i).size ≤ n
def PsFit (n : Nat) (ps : Prs) : Prop := ∀ i, i < ps.length → PrFits n (pat ps i)
set_option maxRecDepth 100000 in
set_option maxHeartbeats 400000 in
theorem eqPeer_any (a b c : Int) (s : ByteArray) (va vb : Value) (ts : List ByteArray) (w : World) (ha : Reads w va ts) (hb : Reads w vb ts) (hl : ts.length ≤ maxLen) :
  Calls Tryz.prog 68 #[.agg #[.int .i64 a, .int .i64 b, .int .i64 c, .string s, va], .agg #[.int .i64 a, .int .i64 b, .int .i64 c, .string s, vb]] w fun e w' => e = .returned (.bool true) ∧ Below w.heap.size w w' := by
 have hA := ((Below.refl w.heap.size w).alloc (Nat.le_refl _) (.cells #[.int .i64 a, .int .i64 b, .int .i64 c, .string s, va] 57)).alloc (by simp) (.cells #[.int .i64 a, .int .i64 b, .int .i64 c, .string s, vb] 57)
 have HE := hid (eqStringS_any va vb ts _ (ha.below hA) (hb.below hA) hl)
 have HA := hid hA
 obtain ⟨aa, ca, rfl, _⟩ := ha.form
 obtain ⟨ab, cb, rfl, _⟩ := hb.form
 clear ha hb hA
 go_enter Tryz.func68, Tryz.ntmps68
 go_wp2_with fail
 refine HE.out.mono ?_
 rintro e w1 ⟨rfl, hb1⟩
 have HB := hid (HA.out.trans (hb1.mono (by simp; omega)))
 clear hb1
 go_wp2
 go_ret
 exact ⟨by simp, HB.out⟩
set_option maxRecDepth 100000 in
set_option maxHeartbeats 2000000 in
theorem eqPeerS_any (va vb : Value) (ps : Prs) (w : World) (ha : RdP w va ps) (hb : RdP w vb ps) (hl : ps.length ≤ maxLen) (hf : PsFit maxLen ps) :
  Calls Tryz.prog 32 #[va, vb] w fun e w' => e = .returned (.bool true) ∧ Below w.heap.size w w' := by
 unfold maxLen at hl
 obtain ⟨a, ca, rfl, hca⟩ := ha
 obtain ⟨b, cb, rfl, hcb⟩ := hb
 have HCA := hid hca
 have HCB := hid hcb
 have HF := hid hf
 clear hca hcb hf
 go_enter Tryz.func32, Tryz.ntmps32
 go_wp2
 go_loopw [5] (fun i wr => ∃ k : Nat, k ≤ ps.length ∧ i = .int .i64 k ∧ Below w.heap.size w wr) (fun i _ => ps.length - (intOf i).toNat)
 case atStart => exact ⟨0, Nat.zero_le _, rfl, Below.refl _ _⟩
 case round =>
  obtain ⟨k, hk, rfl, hbl⟩ := hrel
  by_cases hlt : k < ps.length
  ·obtain ⟨b1, o1, v1, rfl, h1⟩ := HCA.out k hlt
   obtain ⟨b2, o2, v2, rfl, h2⟩ := HCB.out k hlt
   have g1 := h1.below hbl
   have g2 := h2.below hbl
   have hn := (HF.out k hlt).nots
   generalize pat ps k = p at *
   obtain ⟨pl, pw, pt, pa, pn⟩ := p
   have HE := hid fun W ha hb => eqPeer_any pl pw pt pa v1 v2 pn W ha hb hn
   obtain ⟨a3, c3, rfl, _⟩ := g1.rd.form
   obtain ⟨a4, c4, rfl, _⟩ := g2.rd.form
   obtain ⟨x0, x1, x2, x3, x4, x5, x6⟩ := g1
   obtain ⟨y0, y1, y2, y3, y4, y5, y6⟩ := g2
   dsimp only at x1 x2 x3 x4 x5 x6 y1 y2 y3 y4 y5 y6
   have HX6 := hid x6
   have HY6 := hid y6
   have HBL := hid hbl
   clear h1 h2 hbl x6 y6 hn
   go_wp2_with fail
   refine wp_region_held (S := fun w' => w'.cell? ⟨b1, o1 + k * 5, none⟩ = some (.int .i64 pl) ∧ w'.cell? ⟨b1, o1 + k * 5 + 1, none⟩ = some (.int .i64 pw) ∧ w'.cell? ⟨b1, o1 + k * 5 + 2, none⟩ = some (.int .i64 pt) ∧ w'.cell? ⟨b1, o1 + k * 5 + 3, none⟩ = some (.string pa) ∧ w'.cell? ⟨b1, o1 + k * 5 + 4, none⟩ = some (.slice a3 pn.length c3) ∧ w'.cell? ⟨b2, o2 + k * 5, none⟩ = some (.int .i64 pl) ∧ w'.cell? ⟨b2, o2 + k * 5 + 1, none⟩ = some (.int .i64 pw) ∧ w'.cell? ⟨b2, o2 + k * 5 + 2, none⟩ = some (.int .i64 pt) ∧ w'.cell? ⟨b2, o2 + k * 5 + 3, none⟩ = some (.string pa) ∧ w'.cell? ⟨b2, o2 + k * 5 + 4, none⟩ = some (.slice a4 pn.length c4)) (by kernel_rfl) ?_
   change wpAnyH _ _ _ _ _ _ _ _ (World.drew _)
   have hS0 : wr.drew.cell? ⟨b1, o1 + k * 5, none⟩ = some (.int .i64 pl) ∧ wr.drew.cell? ⟨b1, o1 + k * 5 + 1, none⟩ = some (.int .i64 pw) ∧ wr.drew.cell? ⟨b1, o1 + k * 5 + 2, none⟩ = some (.int .i64 pt) ∧ wr.drew.cell? ⟨b1, o1 + k * 5 + 3, none⟩ = some (.string pa) ∧ wr.drew.cell? ⟨b1, o1 + k * 5 + 4, none⟩ = some (.slice a3 pn.length c3) ∧ wr.drew.cell? ⟨b2, o2 + k * 5, none⟩ = some (.int .i64 pl) ∧ wr.drew.cell? ⟨b2, o2 + k * 5 + 1, none⟩ = some (.int .i64 pw) ∧ wr.drew.cell? ⟨b2, o2 + k * 5 + 2, none⟩ = some (.int .i64 pt) ∧ wr.drew.cell? ⟨b2, o2 + k * 5 + 3, none⟩ = some (.string pa) ∧ wr.drew.cell? ⟨b2, o2 + k * 5 + 4, none⟩ = some (.slice a4 pn.length c4) := ⟨x1, x2, x3, x4, x5, y1, y2, y3, y4, y5⟩
   refine tkA 0 (.slice (some ⟨b1, o1, none⟩) ps.length ca) rfl hS0 ?_
   refine tkA 1 (.int .i64 (k : Nat)) rfl hS0 ?_
   refine tkA 2 (.pointer (some ⟨b1, o1 + k * 5, none⟩)) rfl hS0 ?_
   refine tkA 3 (.agg #[.int .i64 pl, .int .i64 pw, .int .i64 pt, .string pa, .slice a3 pn.length c3]) rfl hS0 ?_
   refine tkA 4 (.slice (some ⟨b2, o2, none⟩) ps.length cb) rfl hS0 ?_
   refine tkA 5 (.int .i64 (k : Nat)) rfl hS0 ?_
   refine tkA 6 (.pointer (some ⟨b2, o2 + k * 5, none⟩)) rfl hS0 ?_
   refine tkA 7 (.agg #[.int .i64 pl, .int .i64 pw, .int .i64 pt, .string pa, .slice a4 pn.length c4]) rfl hS0 ?_
   have hec := enters_of Tryz.func68 (by kernel_rfl) rfl
   have hbd : Below wr.heap.size wr wr.drew := below_drewN (Below.refl _ _) 1
   refine held_one 8 (by kernel_rfl) (op_calls (f := 68) (args := #[.agg #[.int .i64 pl, .int .i64 pw, .int .i64 pt, .string pa, .slice a3 pn.length c3], .agg #[.int .i64 pl, .int .i64 pw, .int .i64 pt, .string pa, .slice a4 pn.length c4]]) rfl rfl (by go_simp) (HE.out _ (HX6.out.below hbd) (HY6.out.below hbd)) ?_)
   rintro e w1 ⟨rfl, hb1⟩
   have hb1' : Below wr.heap.size wr w1 := ⟨hb1.os, hb1.tape, hb1.output, hb1.size, hb1.block⟩
   have K := fun (b o : Nat) (v : Value) (hlt : b < wr.heap.size) (h : wr.cell? ⟨b, o, none⟩ = some v) => (hb1'.cell (p := ⟨b, o, none⟩) hlt).trans h
   have hS1 : w1.cell? ⟨b1, o1 + k * 5, none⟩ = some (.int .i64 pl) ∧ w1.cell? ⟨b1, o1 + k * 5 + 1, none⟩ = some (.int .i64 pw) ∧ w1.cell? ⟨b1, o1 + k * 5 + 2, none⟩ = some (.int .i64 pt) ∧ w1.cell? ⟨b1, o1 + k * 5 + 3, none⟩ = some (.string pa) ∧ w1.cell? ⟨b1, o1 + k * 5 + 4, none⟩ = some (.slice a3 pn.length c3) ∧ w1.cell? ⟨b2, o2 + k * 5, none⟩ = some (.int .i64 pl) ∧ w1.cell? ⟨b2, o2 + k * 5 + 1, none⟩ = some (.int .i64 pw) ∧ w1.cell? ⟨b2, o2 + k * 5 + 2, none⟩ = some (.int .i64 pt) ∧ w1.cell? ⟨b2, o2 + k * 5 + 3, none⟩ = some (.string pa) ∧ w1.cell? ⟨b2, o2 + k * 5 + 4, none⟩ = some (.slice a4 pn.length c4) := ⟨K _ _ _ x0 x1, K _ _ _ x0 x2, K _ _ _ x0 x3, K _ _ _ x0 x4, K _ _ _ x0 x5, K _ _ _ y0 y1, K _ _ _ y0 y2, K _ _ _ y0 y3, K _ _ _ y0 y4, K _ _ _ y0 y5⟩
   have HB1 := hid (HBL.out.trans (hb1'.mono HBL.out.size))
   clear hb1 hb1' hS0 x1 x2 x3 x4 x5 y1 y2 y3 y4 y5 K hbd
   refine ⟨_, rfl, hS1, ?_⟩
   refine tkA 9 (.bool false) rfl hS1 ?_
   refine wpAnyH_done (by kernel_rfl) ?_ _
   clear hS1
   go_simp
   go_wp2
   go_roundw
   case rel => exact ⟨k + 1, by omega, by go_num, HB1.out⟩
   case measure => simp [intOf]; omega
  ·go_wp2
   go_ret
   exact ⟨by simp, hbl⟩
/-- The cells of a fetch. -/
abbrev fcells (nm : ByteArray) (now : Int) (full : Bool) (wd room : Int) (vi vp vq : Value) : Array Value := #[.string nm, .int .i64 now, .bool full, .int .i64 wd, .int .i64 room, vi, vp, vq]
/-- A fetch as a value. -/
abbrev fval (nm : ByteArray) (now : Int) (full : Bool) (wd room : Int) (vi vp vq : Value) : Value := .agg #[.string nm, .int .i64 now, .bool full, .int .i64 wd, .int .i64 room, vi, vp, vq]
set_option maxRecDepth 100000 in
set_option maxHeartbeats 1000000 in
theorem eqFetch_any (nm : ByteArray) (now : Int) (full : Bool) (wd room : Int) (vi vp vq vi' vp' vq' : Value) (its : Itms) (ts : List ByteArray) (ps : Prs) (w : World) (hi : RdI w vi its) (hp : Reads w vp ts) (hq : RdP w vq ps) (hi' : RdI w vi' its) (hp' : Reads w vp' ts) (hq' : RdP w vq' ps) (hli : its.length ≤ maxLen) (hlp : ts.length ≤ maxLen) (hlq : ps.length ≤ maxLen) (hf : PsFit maxLen ps) :
  Calls Tryz.prog 9 #[fval nm now full wd room vi vp vq, fval nm now full wd room vi' vp' vq'] w fun e w' => e = .returned (.bool true) ∧ Below w.heap.size w w' := by
 have hA := ((Below.refl w.heap.size w).alloc (Nat.le_refl _) (.cells (fcells nm now full wd room vi vp vq) 35)).alloc (by simp) (.cells (fcells nm now full wd room vi' vp' vq') 35)
 have HN1 := hid ((Blk.new w 35 (fcells nm now full wd room vi vp vq)).alloc (.cells (fcells nm now full wd room vi' vp' vq') 35))
 have hN2 := Blk.new (w.alloc (.cells (fcells nm now full wd room vi vp vq) 35)) 35 (fcells nm now full wd room vi' vp' vq')
 rw [World.size_alloc] at hN2
 have HN2 := hid hN2
 have HE := hid (eqStore_any wd room vi vp vi' vp' its ts _ (hi.below hA) (hp.below hA) (hi'.below hA) (hp'.below hA) hli hlp)
 have HF := hid fun W a b => eqPeerS_any vq vq' ps W a b hlq hf
 have HQ := hid (hq.below hA)
 have HQ' := hid (hq'.below hA)
 have HA := hid hA
 obtain ⟨ai, ci, rfl, _⟩ := hi
 obtain ⟨ai', ci', rfl, _⟩ := hi'
 obtain ⟨ap, cp, rfl, _⟩ := hp.form
 obtain ⟨ap', cp', rfl, _⟩ := hp'.form
 obtain ⟨aq, cq, rfl, _⟩ := hq
 obtain ⟨aq', cq', rfl, _⟩ := hq'
 clear hp hp' hA hN2 hf
 go_enter Tryz.func9, Tryz.ntmps9
 go_wp2_with fail
 refine HE.out.mono ?_
 rintro e w1 ⟨rfl, hb1⟩
 have c1 : w1.cell? ⟨w.heap.size, 7, none⟩ = some (.slice aq ps.length cq) := (HN1.out.below hb1).cell 7
 have c2 : w1.cell? ⟨w.heap.size + 1, 7, none⟩ = some (.slice aq' ps.length cq') := (HN2.out.below hb1).cell 7
 have HF1 := hid (HF.out w1 (HQ.out.below hb1) (HQ'.out.below hb1))
 have HB := hid (HA.out.trans (hb1.mono (by simp; omega)))
 clear hb1
 go_wp2_with fail
 refine HF1.out.mono ?_
 rintro e w2 ⟨rfl, hb2⟩
 have HB2 := hid (HB.out.trans (hb2.mono HB.out.size))
 clear hb2
 go_wp2
 go_ret
 exact ⟨by simp, HB2.out⟩
end Go.Proofs.YtbihndholamdfaaGreatDoor
/- Peers and fetches that came in. -/
namespace Go.Proofs.YtbihndholamdfaaGreatDoor
open Go.ChangeShapes Go.WideShapes Go.ChangeAt Go.RowKit
theorem reads_slice {w : World} {x : Addr} {len cap : Nat} {ss : List ByteArray} (hl : len ≤ ss.length) (hcell : ∀ i, i < ss.length → w.cell? (x.add i) = some (.string (ss.getD i ByteArray.empty))) (hw : ∀ s ∈ ss, s.size ≤ maxLen) :
  Reads w (.slice (some x) len cap) (ss.take len) ∧ ∀ i, (tv (ss.take len) i).size ≤ maxLen := by
 have hlen : (ss.take len).length = len := by simp; omega
 constructor
 ·by_cases e : len = 0
  ·subst e
   exact .inl ⟨by simp, some x, cap, rfl⟩
  ·obtain ⟨b, off, spot⟩ := x
   have hspot : spot = none := by simpa [Addr.add] using World.cell?_spot (hcell 0 (by omega))
   subst hspot
   have ea : ∀ i, (⟨b, off, none⟩ : Addr).add i = ⟨b, off + i, none⟩ := fun i => by simp [Addr.add]
   have h0 := hcell 0 (by omega)
   rw [ea] at h0
   refine .inr ⟨b, off, cap, by rw [hlen], World.block_lt_of_cell? w _ h0, fun i hi => ?_⟩
   rw [hlen] at hi
   have hc := hcell i (by omega)
   rw [ea] at hc
   rw [hc]
   simp [hi]
 ·intro i
  unfold tv
  by_cases hi : i < (ss.take len).length
  ·rw [List.getD_eq_getElem?_getD, List.getElem?_eq_getElem hi]
   exact hw _ (List.mem_of_mem_take (List.getElem_mem hi))
  ·rw [List.getD_eq_getElem?_getD, List.getElem?_eq_none (by omega)]; simp
theorem cellsStrs : Tryz.prog.cellsOf 23 = 1 := by kernel_rfl
theorem cells4 : Tryz.prog.cellsOf 4 = 1 := by kernel_rfl
theorem cellsAPeer : Tryz.prog.cellsOf 88 = 5 := by kernel_rfl
theorem cellsAStore : Tryz.prog.cellsOf 25 = 4 := by kernel_rfl
theorem cellsAItems : Tryz.prog.cellsOf 22 = 1 := by kernel_rfl
theorem cellsAPeers : Tryz.prog.cellsOf 26 = 1 := by kernel_rfl
theorem cellsAFetch : Tryz.prog.cellsOf 28 = 8 := by kernel_rfl
theorem open_texts {H : Type} {enc : TypeId × Value → H} {W : World} {fuel : Nat} {v : Value} {x : DataW H × List MemPlace} (h : DataW.trod enc Tryz.prog W 0 (fun _ => true) true fuel 23 [v] = some x) :
  ∃ ts, Reads W v ts ∧ ts.length ≤ maxLen ∧ ∀ i, (tv ts i).size ≤ maxLen := by
 rcases open_strings Tryz.underlying23 Tryz.underlying9 (by kernel_rfl) h with ⟨hcs, _⟩ | ⟨x, l, c, ss, hcs, _, hl, hm, hz, hx, hcell, hwz⟩
 ·simp at hcs
  subst hcs
  exact ⟨[], .inl ⟨rfl, none, 0, rfl⟩, by simp, fun i => by simp [tv]⟩
 ·simp at hcs
  subst hcs
  simp only [if_true] at hz
  have hsz : l ≤ ss.length := by rw [hz]; exact hl
  have h2 := reads_slice (cap := c) hsz hcell hwz
  exact ⟨ss.take l, h2.1, by rw [List.length_take]; exact Nat.le_trans (Nat.min_le_left _ _) (Nat.le_trans hl hm), h2.2⟩
set_option maxRecDepth 100000 in
theorem open_peers {H : Type} {enc : TypeId × Value → H} {W : World} {fuel : Nat} {v : Value} {x : DataW H × List MemPlace} (h : DataW.trod enc Tryz.prog W 0 (fun _ => true) true fuel 26 [v] = some x) :
  ∃ ps : Prs, RdP W v ps ∧ ps.length ≤ maxLen ∧ PsFit maxLen ps := by
 rcases DataW.trod_slice Tryz.underlying26 h with ⟨hcs, _⟩ | ⟨a, len, cap, elems, rest, n, _, hcs, _, _, hl, hm, hlen, hel, _, _⟩
 ·simp at hcs
  subst hcs
  exact ⟨[], ⟨none, 0, rfl, fun i hi => absurd hi (by simp)⟩, by simp, fun i hi => absurd hi (by simp)⟩
 ·simp at hcs
  subst hcs
  have each : ∀ i, i < len → ∃ p : Pr, PrFits maxLen p ∧ ∃ vn, W.cell? (a.add (i * 5)) = some (.int .i64 p.lies) ∧ W.cell? (a.add (i * 5 + 1)) = some (.int .i64 p.wait) ∧ W.cell? (a.add (i * 5 + 2)) = some (.int .i64 p.last) ∧ W.cell? (a.add (i * 5 + 3)) = some (.string p.asked) ∧ W.cell? (a.add (i * 5 + 4)) = some vn ∧ Reads W vn p.nots := by
   intro i hi
   have h1 := hel i hi
   rw [cellsAPeer, List.getElem?_eq_getElem (by omega), Option.bind_eq_some_iff] at h1
   obtain ⟨cs, h2, h3⟩ := h1
   obtain ⟨hc1, hc2⟩ : cs.length = 5 ∧ ∀ j, j < 5 → W.cell? ((a.add (i * 5)).add j) = cs[j]? := by
    exact (World.cells?_some h2).2
   obtain ⟨xs, m, _, _, _, hxl, hf⟩ := DataW.trod_struct Tryz.underlying88 h3
   match cs, hc1 with
   | [c0, c1, c2, c3, c4], _ =>
    match xs, hxl with
    | [y0, y1, y2, y3, y4], _ =>
     have g0 : DataW.trod enc Tryz.prog W 0 (fun _ => true) true m 3 [c0] = some y0 := by simpa [cells3] using hf 0 _ rfl
     have g1 : DataW.trod enc Tryz.prog W 0 (fun _ => true) true m 3 [c1] = some y1 := by simpa [cells3] using hf 1 _ rfl
     have g2 : DataW.trod enc Tryz.prog W 0 (fun _ => true) true m 3 [c2] = some y2 := by simpa [cells3] using hf 2 _ rfl
     have g3 : DataW.trod enc Tryz.prog W 0 (fun _ => true) true m 9 [c3] = some y3 := by simpa [cells9] using hf 3 _ rfl
     have g4 : DataW.trod enc Tryz.prog W 0 (fun _ => true) true m 23 [c4] = some y4 := by simpa [cellsStrs] using hf 4 _ rfl
     obtain ⟨u0, e0, _, _⟩ := DataW.trod_int Tryz.underlying3 g0
     obtain ⟨u1, e1, _, _⟩ := DataW.trod_int Tryz.underlying3 g1
     obtain ⟨u2, e2, _, _⟩ := DataW.trod_int Tryz.underlying3 g2
     obtain ⟨s, e3, _, hw⟩ := DataW.trod_string Tryz.underlying9 g3
     obtain ⟨ts, hr, hl1, hl2⟩ := open_texts g4
     simp at e0 e1 e2 e3
     subst e0 e1 e2 e3
     refine ⟨⟨u0, u1, u2, s, ts⟩, ⟨hw, hl1, hl2⟩, c4, ?_, ?_, ?_, ?_, ?_, hr⟩
     ·have := hc2 0 (by omega)
      simpa [Addr.add] using this
     ·have := hc2 1 (by omega)
      rw [Addr.add_add] at this
      simpa using this
     ·have := hc2 2 (by omega)
      rw [Addr.add_add] at this
      simpa using this
     ·have := hc2 3 (by omega)
      rw [Addr.add_add] at this
      simpa using this
     ·have := hc2 4 (by omega)
      rw [Addr.add_add] at this
      simpa using this
  obtain ⟨ps, hn, hq⟩ := list_of pr0 _ len each
  subst hn
  refine ⟨ps, ⟨some a, cap, rfl, fun i hi => ?_⟩, Nat.le_trans hl hm, fun i hi => (hq i hi).1⟩
  obtain ⟨b, off, spot⟩ := a
  obtain ⟨_, vn, q0, q1, q2, q3, q4, q5⟩ := hq i hi
  have hspot : spot = none := by
   obtain ⟨_, _, this, _⟩ := hq 0 (by omega)
   simpa [Addr.add] using World.cell?_spot this
  subst hspot
  have ea : ∀ j, (⟨b, off, none⟩ : Addr).add j = ⟨b, off + j, none⟩ := fun j => by simp [Addr.add]
  rw [ea] at q0 q1 q2 q3 q4
  exact ⟨b, off, vn, rfl, World.block_lt_of_cell? W _ q0, q0, by rw [Nat.add_assoc]; exact q1, by rw [Nat.add_assoc]; exact q2, by rw [Nat.add_assoc]; exact q3, by rw [Nat.add_assoc]; exact q4, q5⟩
set_option maxRecDepth 100000 in
theorem open_fetch {H : Type} {enc : TypeId × Value → H} {W : World} {base : Nat} {v : Value} {d : DataW H} {p : List MemPlace} (hv : Value.okWide Tryz.prog W .any base 28 v) (h : DataW.Trod enc Tryz.prog W 0 (fun _ => true) true 28 v d p) :
  ∃ (nm : ByteArray) (now : Int) (full : Bool) (wd room : Int) (vi vp vq : Value) (its : Itms) (ts : List ByteArray) (ps : Prs), v = fval nm now full wd room vi vp vq ∧ RdI W vi its ∧ Reads W vp ts ∧ RdP W vq ps ∧ nm.size ≤ maxLen ∧ its.length ≤ maxLen ∧ ts.length ≤ maxLen ∧ ps.length ≤ maxLen ∧ (∀ i, (itx its i).size ≤ maxLen) ∧ (∀ i, (tv ts i).size ≤ maxLen) ∧ PsFit maxLen ps := by
 obtain ⟨cs, rfl, hsz⟩ := okWide_struct Tryz.underlying28 hv
 rw [cellsAFetch] at hsz
 obtain ⟨l⟩ := cs
 obtain ⟨fuel, hf0⟩ := h
 have hf1 : DataW.trod enc Tryz.prog W 0 (fun _ => true) true fuel 28 l = some (d, p) := hf0
 obtain ⟨xs, m, _, _, _, hxl, hf⟩ := DataW.trod_struct Tryz.underlying28 hf1
 have hl : l.length = 8 := by simpa using hsz
 match l, hl with
 | [c0, c1, c2, c3, c4, c5, c6, c7], _ =>
  match xs, hxl with
  | [y0, y1, y2, y3, y4], _ =>
   have g0 : DataW.trod enc Tryz.prog W 0 (fun _ => true) true m 9 [c0] = some y0 := by simpa [cells9] using hf 0 _ rfl
   have g1 : DataW.trod enc Tryz.prog W 0 (fun _ => true) true m 3 [c1] = some y1 := by simpa [cells3] using hf 1 _ rfl
   have g2 : DataW.trod enc Tryz.prog W 0 (fun _ => true) true m 4 [c2] = some y2 := by simpa [cells4] using hf 2 _ rfl
   have g3 : DataW.trod enc Tryz.prog W 0 (fun _ => true) true m 25 [c3, c4, c5, c6] = some y3 := by simpa [cellsAStore] using hf 3 _ rfl
   have g4 : DataW.trod enc Tryz.prog W 0 (fun _ => true) true m 26 [c7] = some y4 := by simpa [cellsAPeers] using hf 4 _ rfl
   obtain ⟨zs, n, _, _, _, hzl, hg⟩ := DataW.trod_struct Tryz.underlying25 g3
   match zs, hzl with
   | [z0, z1, z2, z3], _ =>
    have k0 : DataW.trod enc Tryz.prog W 0 (fun _ => true) true n 3 [c3] = some z0 := by simpa [cells3] using hg 0 _ rfl
    have k1 : DataW.trod enc Tryz.prog W 0 (fun _ => true) true n 3 [c4] = some z1 := by simpa [cells3] using hg 1 _ rfl
    have k2 : DataW.trod enc Tryz.prog W 0 (fun _ => true) true n 22 [c5] = some z2 := by simpa [cellsAItems] using hg 2 _ rfl
    have k3 : DataW.trod enc Tryz.prog W 0 (fun _ => true) true n 23 [c6] = some z3 := by simpa [cellsStrs] using hg 3 _ rfl
    obtain ⟨nm, e0, _, hw⟩ := DataW.trod_string Tryz.underlying9 g0
    obtain ⟨now, e1, _, _⟩ := DataW.trod_int Tryz.underlying3 g1
    obtain ⟨full, e2, _⟩ := DataW.trod_bool Tryz.underlying4 g2
    obtain ⟨wd, e3, _, _⟩ := DataW.trod_int Tryz.underlying3 k0
    obtain ⟨room, e4, _, _⟩ := DataW.trod_int Tryz.underlying3 k1
    obtain ⟨its, hi, hi1, hi2⟩ := open_items k2
    obtain ⟨ts, hp, hp1, hp2⟩ := open_texts k3
    obtain ⟨ps, hq, hq1, hq2⟩ := open_peers g4
    simp at e0 e1 e2 e3 e4
    subst e0 e1 e2 e3 e4
    exact ⟨nm, now, full, wd, room, c5, c6, c7, its, ts, ps, rfl, hi, hp, hq, hw, hi1, hp1, hq1, hi2, hp2, hq2⟩
end Go.Proofs.YtbihndholamdfaaGreatDoor
/- A message that came in. -/
namespace Go.Proofs.YtbihndholamdfaaGreatDoor
open Go.ChangeShapes Go.WideShapes Go.RowKit
theorem cellsAMsg : Tryz.prog.cellsOf 46 = 5 := by kernel_rfl
set_option maxRecDepth 100000 in
theorem open_msg {H : Type} {enc : TypeId × Value → H} {W : World} {base : Nat} {v : Value} {d : DataW H} {p : List MemPlace} (hv : Value.okWide Tryz.prog W .any base 46 v) (h : DataW.Trod enc Tryz.prog W 0 (fun _ => true) true 46 v d p) :
  ∃ (fr tg : Int) (sum : ByteArray) (has : Bool) (text : ByteArray), v = .agg #[.int .i64 fr, .int .i64 tg, .string sum, .bool has, .string text] ∧ (Lit.int .i64 fr).wf = true ∧ sum.size ≤ maxLen ∧ text.size ≤ maxLen := by
 obtain ⟨cs, rfl, hsz⟩ := okWide_struct Tryz.underlying46 hv
 rw [cellsAMsg] at hsz
 obtain ⟨l⟩ := cs
 obtain ⟨fuel, hf0⟩ := h
 have hf1 : DataW.trod enc Tryz.prog W 0 (fun _ => true) true fuel 46 l = some (d, p) := hf0
 obtain ⟨xs, m, _, _, _, hxl, hf⟩ := DataW.trod_struct Tryz.underlying46 hf1
 have hl : l.length = 5 := by simpa using hsz
 match l, hl with
 | [c0, c1, c2, c3, c4], _ =>
  match xs, hxl with
  | [y0, y1, y2, y3, y4], _ =>
   have g0 : DataW.trod enc Tryz.prog W 0 (fun _ => true) true m 3 [c0] = some y0 := by simpa [cells3] using hf 0 _ rfl
   have g1 : DataW.trod enc Tryz.prog W 0 (fun _ => true) true m 3 [c1] = some y1 := by simpa [cells3] using hf 1 _ rfl
   have g2 : DataW.trod enc Tryz.prog W 0 (fun _ => true) true m 9 [c2] = some y2 := by simpa [cells9] using hf 2 _ rfl
   have g3 : DataW.trod enc Tryz.prog W 0 (fun _ => true) true m 4 [c3] = some y3 := by simpa [cells4] using hf 3 _ rfl
   have g4 : DataW.trod enc Tryz.prog W 0 (fun _ => true) true m 9 [c4] = some y4 := by simpa [cells9] using hf 4 _ rfl
   obtain ⟨fr, e0, _, w0⟩ := DataW.trod_int Tryz.underlying3 g0
   obtain ⟨tg, e1, _, _⟩ := DataW.trod_int Tryz.underlying3 g1
   obtain ⟨sum, e2, _, hw⟩ := DataW.trod_string Tryz.underlying9 g2
   obtain ⟨has, e3, _⟩ := DataW.trod_bool Tryz.underlying4 g3
   obtain ⟨text, e4, _, hw2⟩ := DataW.trod_string Tryz.underlying9 g4
   simp at e0 e1 e2 e3 e4
   subst e0 e1 e2 e3 e4
   exact ⟨fr, tg, sum, has, text, rfl, w0, hw, hw2⟩
end Go.Proofs.YtbihndholamdfaaGreatDoor
