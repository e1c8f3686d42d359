/- Peers: five cells a peer. Fetches as arguments: whether two are the same. -/
import Derived.Test.YtlnkhbnbcmllaaaGreatStoreTo
namespace Go.Proofs.YtlnkhbnbcmllaaaGreat
open Go.RowKit
structure Pr where
  lies : Int
  wait : Int
  last : Int
  asked : ByteArray
  nots : List ByteArray
abbrev Prs := List Pr
def pr0 : Pr := ⟨0, 0, 0, ByteArray.empty, []⟩
def pat (ps : Prs) (i : Nat) : Pr := ps.getD i pr0
/-- Five cells that read as a peer. -/
structure Pr5 (w : World) (b o : Nat) (vn : Value) (p : Pr) : Prop where
  lt : b < w.heap.size
  c0 : w.cell? ⟨b, o, none⟩ = some (.int .i64 p.lies)
  c1 : w.cell? ⟨b, o + 1, none⟩ = some (.int .i64 p.wait)
  c2 : w.cell? ⟨b, o + 2, none⟩ = some (.int .i64 p.last)
  c3 : w.cell? ⟨b, o + 3, none⟩ = some (.string p.asked)
  c4 : w.cell? ⟨b, o + 4, none⟩ = some vn
  rd : Reads w vn p.nots
theorem Pr5.below {w w' : World} {b o : Nat} {vn : Value} {p : Pr} (h : Pr5 w b o vn p) (hb : Below w.heap.size w w') : Pr5 w' b o vn p :=
  ⟨Nat.lt_of_lt_of_le h.lt hb.size, (hb.cell (p := ⟨b, o, none⟩) h.lt).trans h.c0, (hb.cell (p := ⟨b, o + 1, none⟩) h.lt).trans h.c1, (hb.cell (p := ⟨b, o + 2, none⟩) h.lt).trans h.c2, (hb.cell (p := ⟨b, o + 3, none⟩) h.lt).trans h.c3, (hb.cell (p := ⟨b, o + 4, none⟩) h.lt).trans h.c4, h.rd.below hb⟩
/-- A slice that reads as a list of peers. -/
def RdP (w : World) (v : Value) (ps : Prs) : Prop :=
  ∃ a cap, v = .slice a ps.length cap ∧ ∀ i, i < ps.length → ∃ b off vn, a = some ⟨b, off, none⟩ ∧ Pr5 w b (off + i * 5) vn (pat ps i)
theorem RdP.below {w w' : World} {v : Value} {ps : Prs} (h : RdP w v ps) (hb : Below w.heap.size w w') : RdP w' v ps := by
  obtain ⟨a, cap, e, hc⟩ := h
  refine ⟨a, cap, e, fun i hi => ?_⟩
  obtain ⟨b, off, vn, ha, h5⟩ := hc i hi
  exact ⟨b, off, vn, ha, h5.below hb⟩
/-- Texts of bounded size and number. -/
structure PrFits (n : Nat) (p : Pr) : Prop where
  asked : p.asked.size ≤ n
  nots : p.nots.length ≤ n
  each : ∀ i, (tv p.nots i).size ≤ n
def PsFit (n : Nat) (ps : Prs) : Prop := ∀ i, i < ps.length → PrFits n (pat ps i)
set_option maxRecDepth 100000 in
set_option maxHeartbeats 400000 in
theorem eqPeer_any (a b c : Int) (s : ByteArray) (va vb : Value) (ts : List ByteArray) (w : World) (ha : Reads w va ts) (hb : Reads w vb ts) (hl : ts.length ≤ maxLen) :
    Calls Tryz.prog 63 #[.agg #[.int .i64 a, .int .i64 b, .int .i64 c, .string s, va], .agg #[.int .i64 a, .int .i64 b, .int .i64 c, .string s, vb]] w fun e w' => e = .returned (.bool true) ∧ Below w.heap.size w w' := by
  have hA := ((Below.refl w.heap.size w).alloc (Nat.le_refl _) (.cells #[.int .i64 a, .int .i64 b, .int .i64 c, .string s, va] 81)).alloc (by simp) (.cells #[.int .i64 a, .int .i64 b, .int .i64 c, .string s, vb] 81)
  have HE := hid (eqStringS_any va vb ts _ (ha.below hA) (hb.below hA) hl)
  have HA := hid hA
  obtain ⟨aa, ca, rfl, _⟩ := ha.form
  obtain ⟨ab, cb, rfl, _⟩ := hb.form
  clear ha hb hA
  go_enter Tryz.func63, Tryz.ntmps63
  go_wp2_with fail
  refine HE.out.mono ?_
  rintro e w1 ⟨rfl, hb1⟩
  have HB := hid (HA.out.trans (hb1.mono (by simp; omega)))
  clear hb1
  go_wp2
  go_ret
  exact ⟨by simp, HB.out⟩
set_option maxRecDepth 100000 in
set_option maxHeartbeats 2000000 in
theorem eqPeerS_any (va vb : Value) (ps : Prs) (w : World) (ha : RdP w va ps) (hb : RdP w vb ps) (hl : ps.length ≤ maxLen) (hf : PsFit maxLen ps) :
    Calls Tryz.prog 30 #[va, vb] w fun e w' => e = .returned (.bool true) ∧ Below w.heap.size w w' := by
  unfold maxLen at hl
  obtain ⟨a, ca, rfl, hca⟩ := ha
  obtain ⟨b, cb, rfl, hcb⟩ := hb
  have HCA := hid hca
  have HCB := hid hcb
  have HF := hid hf
  clear hca hcb hf
  go_enter Tryz.func30, Tryz.ntmps30
  go_wp2
  go_loopw [5] (fun i wr => ∃ k : Nat, k ≤ ps.length ∧ i = .int .i64 k ∧ Below w.heap.size w wr) (fun i _ => ps.length - (intOf i).toNat)
  case atStart => exact ⟨0, Nat.zero_le _, rfl, Below.refl _ _⟩
  case round =>
    obtain ⟨k, hk, rfl, hbl⟩ := hrel
    by_cases hlt : k < ps.length
    · obtain ⟨b1, o1, v1, rfl, h1⟩ := HCA.out k hlt
      obtain ⟨b2, o2, v2, rfl, h2⟩ := HCB.out k hlt
      have g1 := h1.below hbl
      have g2 := h2.below hbl
      have hn := (HF.out k hlt).nots
      generalize pat ps k = p at *
      obtain ⟨pl, pw, pt, pa, pn⟩ := p
      have HE := hid fun W ha hb => eqPeer_any pl pw pt pa v1 v2 pn W ha hb hn
      obtain ⟨a3, c3, rfl, _⟩ := g1.rd.form
      obtain ⟨a4, c4, rfl, _⟩ := g2.rd.form
      obtain ⟨x0, x1, x2, x3, x4, x5, x6⟩ := g1
      obtain ⟨y0, y1, y2, y3, y4, y5, y6⟩ := g2
      dsimp only at x1 x2 x3 x4 x5 x6 y1 y2 y3 y4 y5 y6
      have HX6 := hid x6
      have HY6 := hid y6
      have HBL := hid hbl
      clear h1 h2 hbl x6 y6 hn
      go_wp2_with fail
      refine wp_region_held (S := fun w' => w'.cell? ⟨b1, o1 + k * 5, none⟩ = some (.int .i64 pl) ∧ w'.cell? ⟨b1, o1 + k * 5 + 1, none⟩ = some (.int .i64 pw) ∧ w'.cell? ⟨b1, o1 + k * 5 + 2, none⟩ = some (.int .i64 pt) ∧ w'.cell? ⟨b1, o1 + k * 5 + 3, none⟩ = some (.string pa) ∧ w'.cell? ⟨b1, o1 + k * 5 + 4, none⟩ = some (.slice a3 pn.length c3) ∧ w'.cell? ⟨b2, o2 + k * 5, none⟩ = some (.int .i64 pl) ∧ w'.cell? ⟨b2, o2 + k * 5 + 1, none⟩ = some (.int .i64 pw) ∧ w'.cell? ⟨b2, o2 + k * 5 + 2, none⟩ = some (.int .i64 pt) ∧ w'.cell? ⟨b2, o2 + k * 5 + 3, none⟩ = some (.string pa) ∧ w'.cell? ⟨b2, o2 + k * 5 + 4, none⟩ = some (.slice a4 pn.length c4)) (by kernel_rfl) ?_
      change wpAnyH _ _ _ _ _ _ _ _ (World.drew _)
      have hS0 : wr.drew.cell? ⟨b1, o1 + k * 5, none⟩ = some (.int .i64 pl) ∧ wr.drew.cell? ⟨b1, o1 + k * 5 + 1, none⟩ = some (.int .i64 pw) ∧ wr.drew.cell? ⟨b1, o1 + k * 5 + 2, none⟩ = some (.int .i64 pt) ∧ wr.drew.cell? ⟨b1, o1 + k * 5 + 3, none⟩ = some (.string pa) ∧ wr.drew.cell? ⟨b1, o1 + k * 5 + 4, none⟩ = some (.slice a3 pn.length c3) ∧ wr.drew.cell? ⟨b2, o2 + k * 5, none⟩ = some (.int .i64 pl) ∧ wr.drew.cell? ⟨b2, o2 + k * 5 + 1, none⟩ = some (.int .i64 pw) ∧ wr.drew.cell? ⟨b2, o2 + k * 5 + 2, none⟩ = some (.int .i64 pt) ∧ wr.drew.cell? ⟨b2, o2 + k * 5 + 3, none⟩ = some (.string pa) ∧ wr.drew.cell? ⟨b2, o2 + k * 5 + 4, none⟩ = some (.slice a4 pn.length c4) := ⟨x1, x2, x3, x4, x5, y1, y2, y3, y4, y5⟩
      refine wpAnyH_take (i := 0) (v := .slice (some ⟨b1, o1, none⟩) ps.length ca) rfl (by kernel_rfl) (by kernel_rfl) (by kernel_rfl) (fun _ _ _ h => h) (.inl ⟨rfl, fun w' hS => by obtain ⟨s1, s2, s3, s4, s5, s6, s7, s8, s9, s10⟩ := hS; go_simp⟩) hS0 ?_
      refine wpAnyH_take (i := 1) (v := .int .i64 (k : Nat)) rfl (by kernel_rfl) (by kernel_rfl) (by kernel_rfl) (fun _ _ _ h => h) (.inl ⟨rfl, fun w' hS => by obtain ⟨s1, s2, s3, s4, s5, s6, s7, s8, s9, s10⟩ := hS; go_simp⟩) hS0 ?_
      refine wpAnyH_take (i := 2) (v := .pointer (some ⟨b1, o1 + k * 5, none⟩)) rfl (by kernel_rfl) (by kernel_rfl) (by kernel_rfl) (fun _ _ _ h => h) (.inl ⟨rfl, fun w' hS => by obtain ⟨s1, s2, s3, s4, s5, s6, s7, s8, s9, s10⟩ := hS; go_simp⟩) hS0 ?_
      refine wpAnyH_take (i := 3) (v := .agg #[.int .i64 pl, .int .i64 pw, .int .i64 pt, .string pa, .slice a3 pn.length c3]) rfl (by kernel_rfl) (by kernel_rfl) (by kernel_rfl) (fun _ _ _ h => h) (.inl ⟨rfl, fun w' hS => by obtain ⟨s1, s2, s3, s4, s5, s6, s7, s8, s9, s10⟩ := hS; go_simp⟩) hS0 ?_
      refine wpAnyH_take (i := 4) (v := .slice (some ⟨b2, o2, none⟩) ps.length cb) rfl (by kernel_rfl) (by kernel_rfl) (by kernel_rfl) (fun _ _ _ h => h) (.inl ⟨rfl, fun w' hS => by obtain ⟨s1, s2, s3, s4, s5, s6, s7, s8, s9, s10⟩ := hS; go_simp⟩) hS0 ?_
      refine wpAnyH_take (i := 5) (v := .int .i64 (k : Nat)) rfl (by kernel_rfl) (by kernel_rfl) (by kernel_rfl) (fun _ _ _ h => h) (.inl ⟨rfl, fun w' hS => by obtain ⟨s1, s2, s3, s4, s5, s6, s7, s8, s9, s10⟩ := hS; go_simp⟩) hS0 ?_
      refine wpAnyH_take (i := 6) (v := .pointer (some ⟨b2, o2 + k * 5, none⟩)) rfl (by kernel_rfl) (by kernel_rfl) (by kernel_rfl) (fun _ _ _ h => h) (.inl ⟨rfl, fun w' hS => by obtain ⟨s1, s2, s3, s4, s5, s6, s7, s8, s9, s10⟩ := hS; go_simp⟩) hS0 ?_
      refine wpAnyH_take (i := 7) (v := .agg #[.int .i64 pl, .int .i64 pw, .int .i64 pt, .string pa, .slice a4 pn.length c4]) rfl (by kernel_rfl) (by kernel_rfl) (by kernel_rfl) (fun _ _ _ h => h) (.inl ⟨rfl, fun w' hS => by obtain ⟨s1, s2, s3, s4, s5, s6, s7, s8, s9, s10⟩ := hS; go_simp⟩) hS0 ?_
      have hec := enters_of Tryz.func63 (by kernel_rfl) rfl
      have hbd : Below wr.heap.size wr wr.drew := below_drewN (Below.refl _ _) 1
      refine held_one 8 (by kernel_rfl) (op_calls (f := 63) (args := #[.agg #[.int .i64 pl, .int .i64 pw, .int .i64 pt, .string pa, .slice a3 pn.length c3], .agg #[.int .i64 pl, .int .i64 pw, .int .i64 pt, .string pa, .slice a4 pn.length c4]]) rfl rfl (by go_simp) (HE.out _ (HX6.out.below hbd) (HY6.out.below hbd)) ?_)
      rintro e w1 ⟨rfl, hb1⟩
      have hb1' : Below wr.heap.size wr w1 := ⟨hb1.os, hb1.tape, hb1.output, hb1.size, hb1.block⟩
      have K := fun (b o : Nat) (v : Value) (hlt : b < wr.heap.size) (h : wr.cell? ⟨b, o, none⟩ = some v) => (hb1'.cell (p := ⟨b, o, none⟩) hlt).trans h
      have hS1 : w1.cell? ⟨b1, o1 + k * 5, none⟩ = some (.int .i64 pl) ∧ w1.cell? ⟨b1, o1 + k * 5 + 1, none⟩ = some (.int .i64 pw) ∧ w1.cell? ⟨b1, o1 + k * 5 + 2, none⟩ = some (.int .i64 pt) ∧ w1.cell? ⟨b1, o1 + k * 5 + 3, none⟩ = some (.string pa) ∧ w1.cell? ⟨b1, o1 + k * 5 + 4, none⟩ = some (.slice a3 pn.length c3) ∧ w1.cell? ⟨b2, o2 + k * 5, none⟩ = some (.int .i64 pl) ∧ w1.cell? ⟨b2, o2 + k * 5 + 1, none⟩ = some (.int .i64 pw) ∧ w1.cell? ⟨b2, o2 + k * 5 + 2, none⟩ = some (.int .i64 pt) ∧ w1.cell? ⟨b2, o2 + k * 5 + 3, none⟩ = some (.string pa) ∧ w1.cell? ⟨b2, o2 + k * 5 + 4, none⟩ = some (.slice a4 pn.length c4) := ⟨K _ _ _ x0 x1, K _ _ _ x0 x2, K _ _ _ x0 x3, K _ _ _ x0 x4, K _ _ _ x0 x5, K _ _ _ y0 y1, K _ _ _ y0 y2, K _ _ _ y0 y3, K _ _ _ y0 y4, K _ _ _ y0 y5⟩
      have HB1 := hid (HBL.out.trans (hb1'.mono HBL.out.size))
      clear hb1 hb1' hS0 x1 x2 x3 x4 x5 y1 y2 y3 y4 y5 K hbd
      refine ⟨_, rfl, hS1, ?_⟩
      refine wpAnyH_take (i := 9) (v := .bool false) rfl (by kernel_rfl) (by kernel_rfl) (by kernel_rfl) (fun _ _ _ h => h) (.inl ⟨rfl, fun w' hS => by obtain ⟨s1, s2, s3, s4, s5, s6, s7, s8, s9, s10⟩ := hS; go_simp⟩) hS1 ?_
      refine wpAnyH_done (by kernel_rfl) ?_ _
      clear hS1
      go_simp
      go_wp2
      go_roundw
      case rel => exact ⟨k + 1, by omega, by go_num, HB1.out⟩
      case measure => simp [intOf]; omega
    · go_wp2
      go_ret
      exact ⟨by simp, hbl⟩
/-- The cells of a fetch. -/
abbrev fcells (nm : ByteArray) (now : Int) (full : Bool) (wd room : Int) (vi vp vq : Value) : Array Value := #[.string nm, .int .i64 now, .bool full, .int .i64 wd, .int .i64 room, vi, vp, vq]
/-- A fetch as a value. -/
abbrev fval (nm : ByteArray) (now : Int) (full : Bool) (wd room : Int) (vi vp vq : Value) : Value := .agg #[.string nm, .int .i64 now, .bool full, .int .i64 wd, .int .i64 room, vi, vp, vq]
set_option maxRecDepth 100000 in
set_option maxHeartbeats 1000000 in
theorem eqFetch_any (nm : ByteArray) (now : Int) (full : Bool) (wd room : Int) (vi vp vq vi' vp' vq' : Value) (its : Itms) (ts : List ByteArray) (ps : Prs) (w : World) (hi : RdI w vi its) (hp : Reads w vp ts) (hq : RdP w vq ps) (hi' : RdI w vi' its) (hp' : Reads w vp' ts) (hq' : RdP w vq' ps) (hli : its.length ≤ maxLen) (hlp : ts.length ≤ maxLen) (hlq : ps.length ≤ maxLen) (hf : PsFit maxLen ps) :
    Calls Tryz.prog 11 #[fval nm now full wd room vi vp vq, fval nm now full wd room vi' vp' vq'] w fun e w' => e = .returned (.bool true) ∧ Below w.heap.size w w' := by
  have hA := ((Below.refl w.heap.size w).alloc (Nat.le_refl _) (.cells (fcells nm now full wd room vi vp vq) 37)).alloc (by simp) (.cells (fcells nm now full wd room vi' vp' vq') 37)
  have HN1 := hid ((Blk.new w 37 (fcells nm now full wd room vi vp vq)).alloc (.cells (fcells nm now full wd room vi' vp' vq') 37))
  have hN2 := Blk.new (w.alloc (.cells (fcells nm now full wd room vi vp vq) 37)) 37 (fcells nm now full wd room vi' vp' vq')
  rw [World.size_alloc] at hN2
  have HN2 := hid hN2
  have HE := hid (eqStore_any wd room vi vp vi' vp' its ts _ (hi.below hA) (hp.below hA) (hi'.below hA) (hp'.below hA) hli hlp)
  have HF := hid fun W a b => eqPeerS_any vq vq' ps W a b hlq hf
  have HQ := hid (hq.below hA)
  have HQ' := hid (hq'.below hA)
  have HA := hid hA
  obtain ⟨ai, ci, rfl, _⟩ := hi
  obtain ⟨ai', ci', rfl, _⟩ := hi'
  obtain ⟨ap, cp, rfl, _⟩ := hp.form
  obtain ⟨ap', cp', rfl, _⟩ := hp'.form
  obtain ⟨aq, cq, rfl, _⟩ := hq
  obtain ⟨aq', cq', rfl, _⟩ := hq'
  clear hp hp' hA hN2 hf
  go_enter Tryz.func11, Tryz.ntmps11
  go_wp2_with fail
  refine HE.out.mono ?_
  rintro e w1 ⟨rfl, hb1⟩
  have c1 : w1.cell? ⟨w.heap.size, 7, none⟩ = some (.slice aq ps.length cq) := (HN1.out.below hb1).cell 7
  have c2 : w1.cell? ⟨w.heap.size + 1, 7, none⟩ = some (.slice aq' ps.length cq') := (HN2.out.below hb1).cell 7
  have HF1 := hid (HF.out w1 (HQ.out.below hb1) (HQ'.out.below hb1))
  have HB := hid (HA.out.trans (hb1.mono (by simp; omega)))
  clear hb1
  go_wp2_with fail
  refine HF1.out.mono ?_
  rintro e w2 ⟨rfl, hb2⟩
  have HB2 := hid (HB.out.trans (hb2.mono HB.out.size))
  clear hb2
  go_wp2
  go_ret
  exact ⟨by simp, HB2.out⟩
end Go.Proofs.YtlnkhbnbcmllaaaGreat
