/- Messages, rows of stores and of booleans; worlds as arguments: whether two are the same. -/
import Derived.Test.YtlnkhbnbcmllaaaGreatPeers
namespace Go.Proofs.YtlnkhbnbcmllaaaGreat
open Go.RowKit
structure Mg where
  fr : Int
  to : Int
  sum : ByteArray
  has : Bool
  text : ByteArray
abbrev Mgs := List Mg
def mg0 : Mg := ⟨0, 0, ByteArray.empty, false, ByteArray.empty⟩
def mat (ms : Mgs) (i : Nat) : Mg := ms.getD i mg0
/-- Five cells that read as a message. -/
structure Mg5 (w : World) (b o : Nat) (p : Mg) : Prop where
  lt : b < w.heap.size
  c0 : w.cell? ⟨b, o, none⟩ = some (.int .i64 p.fr)
  c1 : w.cell? ⟨b, o + 1, none⟩ = some (.int .i64 p.to)
  c2 : w.cell? ⟨b, o + 2, none⟩ = some (.string p.sum)
  c3 : w.cell? ⟨b, o + 3, none⟩ = some (.bool p.has)
  c4 : w.cell? ⟨b, o + 4, none⟩ = some (.string p.text)
theorem Mg5.below {w w' : World} {b o : Nat} {p : Mg} (h : Mg5 w b o p) (hb : Below w.heap.size w w') : Mg5 w' b o p :=
  ⟨Nat.lt_of_lt_of_le h.lt hb.size, (hb.cell (p := ⟨b, o, none⟩) h.lt).trans h.c0, (hb.cell (p := ⟨b, o + 1, none⟩) h.lt).trans h.c1, (hb.cell (p := ⟨b, o + 2, none⟩) h.lt).trans h.c2, (hb.cell (p := ⟨b, o + 3, none⟩) h.lt).trans h.c3, (hb.cell (p := ⟨b, o + 4, none⟩) h.lt).trans h.c4⟩
def RdM (w : World) (v : Value) (ms : Mgs) : Prop :=
  ∃ a cap, v = .slice a ms.length cap ∧ ∀ i, i < ms.length → ∃ b off, a = some ⟨b, off, none⟩ ∧ Mg5 w b (off + i * 5) (mat ms i)
theorem RdM.below {w w' : World} {v : Value} {ms : Mgs} (h : RdM w v ms) (hb : Below w.heap.size w w') : RdM w' v ms := by
  obtain ⟨a, cap, e, hc⟩ := h
  refine ⟨a, cap, e, fun i hi => ?_⟩
  obtain ⟨b, off, ha, h5⟩ := hc i hi
  exact ⟨b, off, ha, h5.below hb⟩
structure MgFits (n : Nat) (p : Mg) : Prop where
  sum : p.sum.size ≤ n
  text : p.text.size ≤ n
def MsFit (n : Nat) (ms : Mgs) : Prop := ∀ i, i < ms.length → MgFits n (mat ms i)
/-- A store as a list of cells tells it. -/
structure Sr where
  wd : Int
  room : Int
  its : Itms
  ts : List ByteArray
abbrev Srs := List Sr
def sr0 : Sr := ⟨0, 0, [], []⟩
def sat (ss : Srs) (i : Nat) : Sr := ss.getD i sr0
structure Sr4 (w : World) (b o : Nat) (vi vp : Value) (p : Sr) : Prop where
  lt : b < w.heap.size
  c0 : w.cell? ⟨b, o, none⟩ = some (.int .i64 p.wd)
  c1 : w.cell? ⟨b, o + 1, none⟩ = some (.int .i64 p.room)
  c2 : w.cell? ⟨b, o + 2, none⟩ = some vi
  c3 : w.cell? ⟨b, o + 3, none⟩ = some vp
  ri : RdI w vi p.its
  rp : Reads w vp p.ts
theorem Sr4.below {w w' : World} {b o : Nat} {vi vp : Value} {p : Sr} (h : Sr4 w b o vi vp p) (hb : Below w.heap.size w w') : Sr4 w' b o vi vp p :=
  ⟨Nat.lt_of_lt_of_le h.lt hb.size, (hb.cell (p := ⟨b, o, none⟩) h.lt).trans h.c0, (hb.cell (p := ⟨b, o + 1, none⟩) h.lt).trans h.c1, (hb.cell (p := ⟨b, o + 2, none⟩) h.lt).trans h.c2, (hb.cell (p := ⟨b, o + 3, none⟩) h.lt).trans h.c3, h.ri.below hb, h.rp.below hb⟩
def RdS (w : World) (v : Value) (ss : Srs) : Prop :=
  ∃ a cap, v = .slice a ss.length cap ∧ ∀ i, i < ss.length → ∃ b off vi vp, a = some ⟨b, off, none⟩ ∧ Sr4 w b (off + i * 4) vi vp (sat ss i)
theorem RdS.below {w w' : World} {v : Value} {ss : Srs} (h : RdS w v ss) (hb : Below w.heap.size w w') : RdS w' v ss := by
  obtain ⟨a, cap, e, hc⟩ := h
  refine ⟨a, cap, e, fun i hi => ?_⟩
  obtain ⟨b, off, vi, vp, ha, h5⟩ := hc i hi
  exact ⟨b, off, vi, vp, ha, h5.below hb⟩
structure SrFits (n : Nat) (p : Sr) : Prop where
  its : p.its.length ≤ n
  each : ∀ i, (itx p.its i).size ≤ n
  ts : p.ts.length ≤ n
  tach : ∀ i, (tv p.ts i).size ≤ n
def SsFit (n : Nat) (ss : Srs) : Prop := ∀ i, i < ss.length → SrFits n (sat ss i)
/-- A slice that reads as a list of booleans. -/
def RdB (w : World) (v : Value) (bs : List Bool) : Prop :=
  ∃ a cap, v = .slice a bs.length cap ∧ ∀ i, i < bs.length → ∃ b off, a = some ⟨b, off, none⟩ ∧ b < w.heap.size ∧ w.cell? ⟨b, off + i, none⟩ = some (.bool (bs.getD i false))
theorem RdB.below {w w' : World} {v : Value} {bs : List Bool} (h : RdB w v bs) (hb : Below w.heap.size w w') : RdB w' v bs := by
  obtain ⟨a, cap, e, hc⟩ := h
  refine ⟨a, cap, e, fun i hi => ?_⟩
  obtain ⟨b, off, ha, hl, h5⟩ := hc i hi
  exact ⟨b, off, ha, Nat.lt_of_lt_of_le hl hb.size, (hb.cell (p := ⟨b, off + i, none⟩) hl).trans h5⟩
set_option maxRecDepth 100000 in
set_option maxHeartbeats 1000000 in
theorem eqBoolS_any (va vb : Value) (bs : List Bool) (w : World) (ha : RdB w va bs) (hb : RdB w vb bs) (hl : bs.length ≤ maxLen) :
    Calls Tryz.prog 27 #[va, vb] w fun e w' => e = .returned (.bool true) ∧ Below w.heap.size w w' := by
  unfold maxLen at hl
  obtain ⟨a, ca, rfl, hca⟩ := ha
  obtain ⟨b, cb, rfl, hcb⟩ := hb
  have HCA := hid hca
  have HCB := hid hcb
  clear hca hcb
  go_enter Tryz.func27, Tryz.ntmps27
  go_wp2
  go_loopw [5] (fun i wr => ∃ k : Nat, k ≤ bs.length ∧ i = .int .i64 k ∧ Below w.heap.size w wr) (fun i _ => bs.length - (intOf i).toNat)
  case atStart => exact ⟨0, Nat.zero_le _, rfl, Below.refl _ _⟩
  case round =>
    obtain ⟨k, hk, rfl, hbl⟩ := hrel
    by_cases hlt : k < bs.length
    · obtain ⟨b1, o1, rfl, hb1, hx1⟩ := HCA.out k hlt
      obtain ⟨b2, o2, rfl, hb2, hx2⟩ := HCB.out k hlt
      have p1 := (hbl.cell (p := ⟨b1, o1 + k, none⟩) hb1).trans hx1
      have p2 := (hbl.cell (p := ⟨b2, o2 + k, none⟩) hb2).trans hx2
      generalize bs.getD k false = t at *
      have HBL := hid hbl
      clear hx1 hx2 hbl hb1 hb2
      go_wp2
      go_quiet (fail)
      go_wp2
      go_roundw
      case rel => exact ⟨k + 1, by omega, by go_num, HBL.out.trans (below_drewN (Below.refl _ _) _)⟩
      case measure => simp [intOf]; omega
    · go_wp2
      go_ret
      exact ⟨by simp, hbl⟩
set_option maxRecDepth 100000 in
set_option maxHeartbeats 400000 in
theorem eqMessage_any (a b : Int) (s : ByteArray) (h : Bool) (x : ByteArray) (w : World) :
    Calls Tryz.prog 60 #[.agg #[.int .i64 a, .int .i64 b, .string s, .bool h, .string x], .agg #[.int .i64 a, .int .i64 b, .string s, .bool h, .string x]] w fun e w' => e = .returned (.bool true) ∧ Below w.heap.size w w' := by
  have hA := hid (((Below.refl w.heap.size w).alloc (Nat.le_refl _) (.cells #[.int .i64 a, .int .i64 b, .string s, .bool h, .string x] 101)).alloc (by simp) (.cells #[.int .i64 a, .int .i64 b, .string s, .bool h, .string x] 101))
  cases h <;>
  · go_enter Tryz.func60, Tryz.ntmps60
    go_wp2
    go_ret
    exact ⟨by simp, hA.out⟩
set_option maxRecDepth 100000 in
set_option maxHeartbeats 2000000 in
theorem eqMessageS_any (va vb : Value) (ms : Mgs) (w : World) (ha : RdM w va ms) (hb : RdM w vb ms) (hl : ms.length ≤ maxLen) :
    Calls Tryz.prog 28 #[va, vb] w fun e w' => e = .returned (.bool true) ∧ Below w.heap.size w w' := by
  unfold maxLen at hl
  obtain ⟨a, ca, rfl, hca⟩ := ha
  obtain ⟨b, cb, rfl, hcb⟩ := hb
  have HCA := hid hca
  have HCB := hid hcb
  clear hca hcb
  go_enter Tryz.func28, Tryz.ntmps28
  go_wp2
  go_loopw [5] (fun i wr => ∃ k : Nat, k ≤ ms.length ∧ i = .int .i64 k ∧ Below w.heap.size w wr) (fun i _ => ms.length - (intOf i).toNat)
  case atStart => exact ⟨0, Nat.zero_le _, rfl, Below.refl _ _⟩
  case round =>
    obtain ⟨k, hk, rfl, hbl⟩ := hrel
    by_cases hlt : k < ms.length
    · obtain ⟨b1, o1, rfl, h1⟩ := HCA.out k hlt
      obtain ⟨b2, o2, rfl, h2⟩ := HCB.out k hlt
      have g1 := h1.below hbl
      have g2 := h2.below hbl
      generalize mat ms k = p at *
      obtain ⟨pf, pt, ps, ph, px⟩ := p
      obtain ⟨x0, x1, x2, x3, x4, x5⟩ := g1
      obtain ⟨y0, y1, y2, y3, y4, y5⟩ := g2
      dsimp only at x1 x2 x3 x4 x5 y1 y2 y3 y4 y5
      have HE := hid fun W => eqMessage_any pf pt ps ph px W
      have HBL := hid hbl
      clear h1 h2 hbl
      go_wp2_with fail
      refine wp_region_held (S := fun w' => w'.cell? ⟨b1, o1 + k * 5, none⟩ = some (.int .i64 pf) ∧ w'.cell? ⟨b1, o1 + k * 5 + 1, none⟩ = some (.int .i64 pt) ∧ w'.cell? ⟨b1, o1 + k * 5 + 2, none⟩ = some (.string ps) ∧ w'.cell? ⟨b1, o1 + k * 5 + 3, none⟩ = some (.bool ph) ∧ w'.cell? ⟨b1, o1 + k * 5 + 4, none⟩ = some (.string px) ∧ w'.cell? ⟨b2, o2 + k * 5, none⟩ = some (.int .i64 pf) ∧ w'.cell? ⟨b2, o2 + k * 5 + 1, none⟩ = some (.int .i64 pt) ∧ w'.cell? ⟨b2, o2 + k * 5 + 2, none⟩ = some (.string ps) ∧ w'.cell? ⟨b2, o2 + k * 5 + 3, none⟩ = some (.bool ph) ∧ w'.cell? ⟨b2, o2 + k * 5 + 4, none⟩ = some (.string px)) (by kernel_rfl) ?_
      change wpAnyH _ _ _ _ _ _ _ _ (World.drew _)
      have hS0 : wr.drew.cell? ⟨b1, o1 + k * 5, none⟩ = some (.int .i64 pf) ∧ wr.drew.cell? ⟨b1, o1 + k * 5 + 1, none⟩ = some (.int .i64 pt) ∧ wr.drew.cell? ⟨b1, o1 + k * 5 + 2, none⟩ = some (.string ps) ∧ wr.drew.cell? ⟨b1, o1 + k * 5 + 3, none⟩ = some (.bool ph) ∧ wr.drew.cell? ⟨b1, o1 + k * 5 + 4, none⟩ = some (.string px) ∧ wr.drew.cell? ⟨b2, o2 + k * 5, none⟩ = some (.int .i64 pf) ∧ wr.drew.cell? ⟨b2, o2 + k * 5 + 1, none⟩ = some (.int .i64 pt) ∧ wr.drew.cell? ⟨b2, o2 + k * 5 + 2, none⟩ = some (.string ps) ∧ wr.drew.cell? ⟨b2, o2 + k * 5 + 3, none⟩ = some (.bool ph) ∧ wr.drew.cell? ⟨b2, o2 + k * 5 + 4, none⟩ = some (.string px) := ⟨x1, x2, x3, x4, x5, y1, y2, y3, y4, y5⟩
      refine wpAnyH_take (i := 0) (v := .slice (some ⟨b1, o1, none⟩) ms.length ca) rfl (by kernel_rfl) (by kernel_rfl) (by kernel_rfl) (fun _ _ _ h => h) (.inl ⟨rfl, fun w' hS => by obtain ⟨s0, s1, s2, s3, s4, s5, s6, s7, s8, s9⟩ := hS; go_simp⟩) hS0 ?_
      refine wpAnyH_take (i := 1) (v := .int .i64 (k : Nat)) rfl (by kernel_rfl) (by kernel_rfl) (by kernel_rfl) (fun _ _ _ h => h) (.inl ⟨rfl, fun w' hS => by obtain ⟨s0, s1, s2, s3, s4, s5, s6, s7, s8, s9⟩ := hS; go_simp⟩) hS0 ?_
      refine wpAnyH_take (i := 2) (v := .pointer (some ⟨b1, o1 + k * 5, none⟩)) rfl (by kernel_rfl) (by kernel_rfl) (by kernel_rfl) (fun _ _ _ h => h) (.inl ⟨rfl, fun w' hS => by obtain ⟨s0, s1, s2, s3, s4, s5, s6, s7, s8, s9⟩ := hS; go_simp⟩) hS0 ?_
      refine wpAnyH_take (i := 3) (v := .agg #[.int .i64 pf, .int .i64 pt, .string ps, .bool ph, .string px]) rfl (by kernel_rfl) (by kernel_rfl) (by kernel_rfl) (fun _ _ _ h => h) (.inl ⟨rfl, fun w' hS => by obtain ⟨s0, s1, s2, s3, s4, s5, s6, s7, s8, s9⟩ := hS; go_simp⟩) hS0 ?_
      refine wpAnyH_take (i := 4) (v := .slice (some ⟨b2, o2, none⟩) ms.length cb) rfl (by kernel_rfl) (by kernel_rfl) (by kernel_rfl) (fun _ _ _ h => h) (.inl ⟨rfl, fun w' hS => by obtain ⟨s0, s1, s2, s3, s4, s5, s6, s7, s8, s9⟩ := hS; go_simp⟩) hS0 ?_
      refine wpAnyH_take (i := 5) (v := .int .i64 (k : Nat)) rfl (by kernel_rfl) (by kernel_rfl) (by kernel_rfl) (fun _ _ _ h => h) (.inl ⟨rfl, fun w' hS => by obtain ⟨s0, s1, s2, s3, s4, s5, s6, s7, s8, s9⟩ := hS; go_simp⟩) hS0 ?_
      refine wpAnyH_take (i := 6) (v := .pointer (some ⟨b2, o2 + k * 5, none⟩)) rfl (by kernel_rfl) (by kernel_rfl) (by kernel_rfl) (fun _ _ _ h => h) (.inl ⟨rfl, fun w' hS => by obtain ⟨s0, s1, s2, s3, s4, s5, s6, s7, s8, s9⟩ := hS; go_simp⟩) hS0 ?_
      refine wpAnyH_take (i := 7) (v := .agg #[.int .i64 pf, .int .i64 pt, .string ps, .bool ph, .string px]) rfl (by kernel_rfl) (by kernel_rfl) (by kernel_rfl) (fun _ _ _ h => h) (.inl ⟨rfl, fun w' hS => by obtain ⟨s0, s1, s2, s3, s4, s5, s6, s7, s8, s9⟩ := hS; go_simp⟩) hS0 ?_
      have hec := enters_of Tryz.func60 (by kernel_rfl) rfl
      have hbd : Below wr.heap.size wr wr.drew := below_drewN (Below.refl _ _) 1
      refine held_one 8 (by kernel_rfl) (op_calls (f := 60) (args := #[.agg #[.int .i64 pf, .int .i64 pt, .string ps, .bool ph, .string px], .agg #[.int .i64 pf, .int .i64 pt, .string ps, .bool ph, .string px]]) rfl rfl (by go_simp) (HE.out _) ?_)
      rintro e w1 ⟨rfl, hb1⟩
      have hb1' : Below wr.heap.size wr w1 := ⟨hb1.os, hb1.tape, hb1.output, hb1.size, hb1.block⟩
      have K := fun (b o : Nat) (v : Value) (hlt : b < wr.heap.size) (h : wr.cell? ⟨b, o, none⟩ = some v) => (hb1'.cell (p := ⟨b, o, none⟩) hlt).trans h
      have hS1 : w1.cell? ⟨b1, o1 + k * 5, none⟩ = some (.int .i64 pf) ∧ w1.cell? ⟨b1, o1 + k * 5 + 1, none⟩ = some (.int .i64 pt) ∧ w1.cell? ⟨b1, o1 + k * 5 + 2, none⟩ = some (.string ps) ∧ w1.cell? ⟨b1, o1 + k * 5 + 3, none⟩ = some (.bool ph) ∧ w1.cell? ⟨b1, o1 + k * 5 + 4, none⟩ = some (.string px) ∧ w1.cell? ⟨b2, o2 + k * 5, none⟩ = some (.int .i64 pf) ∧ w1.cell? ⟨b2, o2 + k * 5 + 1, none⟩ = some (.int .i64 pt) ∧ w1.cell? ⟨b2, o2 + k * 5 + 2, none⟩ = some (.string ps) ∧ w1.cell? ⟨b2, o2 + k * 5 + 3, none⟩ = some (.bool ph) ∧ w1.cell? ⟨b2, o2 + k * 5 + 4, none⟩ = some (.string px) := ⟨K _ _ _ x0 x1, K _ _ _ x0 x2, K _ _ _ x0 x3, K _ _ _ x0 x4, K _ _ _ x0 x5, K _ _ _ y0 y1, K _ _ _ y0 y2, K _ _ _ y0 y3, K _ _ _ y0 y4, K _ _ _ y0 y5⟩
      have HB1 := hid (HBL.out.trans (hb1'.mono HBL.out.size))
      clear hb1 hb1' hS0 x1 x2 x3 x4 x5 y1 y2 y3 y4 y5 K hbd
      refine ⟨_, rfl, hS1, ?_⟩
      refine wpAnyH_take (i := 9) (v := .bool false) rfl (by kernel_rfl) (by kernel_rfl) (by kernel_rfl) (fun _ _ _ h => h) (.inl ⟨rfl, fun w' hS => by obtain ⟨s0, s1, s2, s3, s4, s5, s6, s7, s8, s9⟩ := hS; go_simp⟩) hS1 ?_
      refine wpAnyH_done (by kernel_rfl) ?_ _
      clear hS1
      go_simp
      go_wp2
      go_roundw
      case rel => exact ⟨k + 1, by omega, by go_num, HB1.out⟩
      case measure => simp [intOf]; omega
    · go_wp2
      go_ret
      exact ⟨by simp, hbl⟩
set_option maxRecDepth 100000 in
set_option maxHeartbeats 2000000 in
theorem eqStoreS_any (va vb : Value) (ss : Srs) (w : World) (ha : RdS w va ss) (hb : RdS w vb ss) (hl : ss.length ≤ maxLen) (hf : SsFit maxLen ss) :
    Calls Tryz.prog 12 #[va, vb] w fun e w' => e = .returned (.bool true) ∧ Below w.heap.size w w' := by
  unfold maxLen at hl
  obtain ⟨a, ca, rfl, hca⟩ := ha
  obtain ⟨b, cb, rfl, hcb⟩ := hb
  have HCA := hid hca
  have HCB := hid hcb
  have HF := hid hf
  clear hca hcb
  go_enter Tryz.func12, Tryz.ntmps12
  go_wp2
  go_loopw [5] (fun i wr => ∃ k : Nat, k ≤ ss.length ∧ i = .int .i64 k ∧ Below w.heap.size w wr) (fun i _ => ss.length - (intOf i).toNat)
  case atStart => exact ⟨0, Nat.zero_le _, rfl, Below.refl _ _⟩
  case round =>
    obtain ⟨k, hk, rfl, hbl⟩ := hrel
    by_cases hlt : k < ss.length
    · obtain ⟨b1, o1, vi1, vp1, rfl, h1⟩ := HCA.out k hlt
      obtain ⟨b2, o2, vi2, vp2, rfl, h2⟩ := HCB.out k hlt
      have g1 := h1.below hbl
      have g2 := h2.below hbl
      have hn := (HF.out k hlt).its
      have hn2 := (HF.out k hlt).ts
      generalize sat ss k = p at *
      obtain ⟨pw, pr, pi, pt⟩ := p
      obtain ⟨a3, c3, rfl, _⟩ := id g1.ri
      obtain ⟨a5, c5, rfl, _⟩ := g1.rp.form
      obtain ⟨a4, c4, rfl, _⟩ := id g2.ri
      obtain ⟨a6, c6, rfl, _⟩ := g2.rp.form
      obtain ⟨x0, x1, x2, x3, x4, x5, x6⟩ := g1
      obtain ⟨y0, y1, y2, y3, y4, y5, y6⟩ := g2
      dsimp only at x1 x2 x3 x4 x5 x6 y1 y2 y3 y4 y5 y6
      have HX5 := hid x5
      have HY5 := hid y5
      have HX6 := hid x6
      have HY6 := hid y6
      have HE := hid fun W a b c d => eqStore_any pw pr (.slice a3 pi.length c3) (.slice a5 pt.length c5) (.slice a4 pi.length c4) (.slice a6 pt.length c6) pi pt W a b c d hn hn2
      have HBL := hid hbl
      clear h1 h2 hbl x5 y5 x6 y6
      go_wp2_with fail
      refine wp_region_held (S := fun w' => w'.cell? ⟨b1, o1 + k * 4, none⟩ = some (.int .i64 pw) ∧ w'.cell? ⟨b1, o1 + k * 4 + 1, none⟩ = some (.int .i64 pr) ∧ w'.cell? ⟨b1, o1 + k * 4 + 2, none⟩ = some (.slice a3 pi.length c3) ∧ w'.cell? ⟨b1, o1 + k * 4 + 3, none⟩ = some (.slice a5 pt.length c5) ∧ w'.cell? ⟨b2, o2 + k * 4, none⟩ = some (.int .i64 pw) ∧ w'.cell? ⟨b2, o2 + k * 4 + 1, none⟩ = some (.int .i64 pr) ∧ w'.cell? ⟨b2, o2 + k * 4 + 2, none⟩ = some (.slice a4 pi.length c4) ∧ w'.cell? ⟨b2, o2 + k * 4 + 3, none⟩ = some (.slice a6 pt.length c6)) (by kernel_rfl) ?_
      change wpAnyH _ _ _ _ _ _ _ _ (World.drew _)
      have hS0 : wr.drew.cell? ⟨b1, o1 + k * 4, none⟩ = some (.int .i64 pw) ∧ wr.drew.cell? ⟨b1, o1 + k * 4 + 1, none⟩ = some (.int .i64 pr) ∧ wr.drew.cell? ⟨b1, o1 + k * 4 + 2, none⟩ = some (.slice a3 pi.length c3) ∧ wr.drew.cell? ⟨b1, o1 + k * 4 + 3, none⟩ = some (.slice a5 pt.length c5) ∧ wr.drew.cell? ⟨b2, o2 + k * 4, none⟩ = some (.int .i64 pw) ∧ wr.drew.cell? ⟨b2, o2 + k * 4 + 1, none⟩ = some (.int .i64 pr) ∧ wr.drew.cell? ⟨b2, o2 + k * 4 + 2, none⟩ = some (.slice a4 pi.length c4) ∧ wr.drew.cell? ⟨b2, o2 + k * 4 + 3, none⟩ = some (.slice a6 pt.length c6) := ⟨x1, x2, x3, x4, y1, y2, y3, y4⟩
      refine wpAnyH_take (i := 0) (v := .slice (some ⟨b1, o1, none⟩) ss.length ca) rfl (by kernel_rfl) (by kernel_rfl) (by kernel_rfl) (fun _ _ _ h => h) (.inl ⟨rfl, fun w' hS => by obtain ⟨s0, s1, s2, s3, s4, s5, s6, s7⟩ := hS; go_simp⟩) hS0 ?_
      refine wpAnyH_take (i := 1) (v := .int .i64 (k : Nat)) rfl (by kernel_rfl) (by kernel_rfl) (by kernel_rfl) (fun _ _ _ h => h) (.inl ⟨rfl, fun w' hS => by obtain ⟨s0, s1, s2, s3, s4, s5, s6, s7⟩ := hS; go_simp⟩) hS0 ?_
      refine wpAnyH_take (i := 2) (v := .pointer (some ⟨b1, o1 + k * 4, none⟩)) rfl (by kernel_rfl) (by kernel_rfl) (by kernel_rfl) (fun _ _ _ h => h) (.inl ⟨rfl, fun w' hS => by obtain ⟨s0, s1, s2, s3, s4, s5, s6, s7⟩ := hS; go_simp⟩) hS0 ?_
      refine wpAnyH_take (i := 3) (v := .agg #[.int .i64 pw, .int .i64 pr, .slice a3 pi.length c3, .slice a5 pt.length c5]) rfl (by kernel_rfl) (by kernel_rfl) (by kernel_rfl) (fun _ _ _ h => h) (.inl ⟨rfl, fun w' hS => by obtain ⟨s0, s1, s2, s3, s4, s5, s6, s7⟩ := hS; go_simp⟩) hS0 ?_
      refine wpAnyH_take (i := 4) (v := .slice (some ⟨b2, o2, none⟩) ss.length cb) rfl (by kernel_rfl) (by kernel_rfl) (by kernel_rfl) (fun _ _ _ h => h) (.inl ⟨rfl, fun w' hS => by obtain ⟨s0, s1, s2, s3, s4, s5, s6, s7⟩ := hS; go_simp⟩) hS0 ?_
      refine wpAnyH_take (i := 5) (v := .int .i64 (k : Nat)) rfl (by kernel_rfl) (by kernel_rfl) (by kernel_rfl) (fun _ _ _ h => h) (.inl ⟨rfl, fun w' hS => by obtain ⟨s0, s1, s2, s3, s4, s5, s6, s7⟩ := hS; go_simp⟩) hS0 ?_
      refine wpAnyH_take (i := 6) (v := .pointer (some ⟨b2, o2 + k * 4, none⟩)) rfl (by kernel_rfl) (by kernel_rfl) (by kernel_rfl) (fun _ _ _ h => h) (.inl ⟨rfl, fun w' hS => by obtain ⟨s0, s1, s2, s3, s4, s5, s6, s7⟩ := hS; go_simp⟩) hS0 ?_
      refine wpAnyH_take (i := 7) (v := .agg #[.int .i64 pw, .int .i64 pr, .slice a4 pi.length c4, .slice a6 pt.length c6]) rfl (by kernel_rfl) (by kernel_rfl) (by kernel_rfl) (fun _ _ _ h => h) (.inl ⟨rfl, fun w' hS => by obtain ⟨s0, s1, s2, s3, s4, s5, s6, s7⟩ := hS; go_simp⟩) hS0 ?_
      have hec := enters_of Tryz.func29 (by kernel_rfl) rfl
      have hbd : Below wr.heap.size wr wr.drew := below_drewN (Below.refl _ _) 1
      refine held_one 8 (by kernel_rfl) (op_calls (f := 29) (args := #[.agg #[.int .i64 pw, .int .i64 pr, .slice a3 pi.length c3, .slice a5 pt.length c5], .agg #[.int .i64 pw, .int .i64 pr, .slice a4 pi.length c4, .slice a6 pt.length c6]]) rfl rfl (by go_simp) (HE.out _ (HX5.out.below hbd) (HX6.out.below hbd) (HY5.out.below hbd) (HY6.out.below hbd)) ?_)
      rintro e w1 ⟨rfl, hb1⟩
      have hb1' : Below wr.heap.size wr w1 := ⟨hb1.os, hb1.tape, hb1.output, hb1.size, hb1.block⟩
      have K := fun (b o : Nat) (v : Value) (hlt : b < wr.heap.size) (h : wr.cell? ⟨b, o, none⟩ = some v) => (hb1'.cell (p := ⟨b, o, none⟩) hlt).trans h
      have hS1 : w1.cell? ⟨b1, o1 + k * 4, none⟩ = some (.int .i64 pw) ∧ w1.cell? ⟨b1, o1 + k * 4 + 1, none⟩ = some (.int .i64 pr) ∧ w1.cell? ⟨b1, o1 + k * 4 + 2, none⟩ = some (.slice a3 pi.length c3) ∧ w1.cell? ⟨b1, o1 + k * 4 + 3, none⟩ = some (.slice a5 pt.length c5) ∧ w1.cell? ⟨b2, o2 + k * 4, none⟩ = some (.int .i64 pw) ∧ w1.cell? ⟨b2, o2 + k * 4 + 1, none⟩ = some (.int .i64 pr) ∧ w1.cell? ⟨b2, o2 + k * 4 + 2, none⟩ = some (.slice a4 pi.length c4) ∧ w1.cell? ⟨b2, o2 + k * 4 + 3, none⟩ = some (.slice a6 pt.length c6) := ⟨K _ _ _ x0 x1, K _ _ _ x0 x2, K _ _ _ x0 x3, K _ _ _ x0 x4, K _ _ _ y0 y1, K _ _ _ y0 y2, K _ _ _ y0 y3, K _ _ _ y0 y4⟩
      have HB1 := hid (HBL.out.trans (hb1'.mono HBL.out.size))
      clear hb1 hb1' hS0 x1 x2 x3 x4 y1 y2 y3 y4 K hbd
      refine ⟨_, rfl, hS1, ?_⟩
      refine wpAnyH_take (i := 9) (v := .bool false) rfl (by kernel_rfl) (by kernel_rfl) (by kernel_rfl) (fun _ _ _ h => h) (.inl ⟨rfl, fun w' hS => by obtain ⟨s0, s1, s2, s3, s4, s5, s6, s7⟩ := hS; go_simp⟩) hS1 ?_
      refine wpAnyH_done (by kernel_rfl) ?_ _
      clear hS1
      go_simp
      go_wp2
      go_roundw
      case rel => exact ⟨k + 1, by omega, by go_num, HB1.out⟩
      case measure => simp [intOf]; omega
    · go_wp2
      go_ret
      exact ⟨by simp, hbl⟩
abbrev wcells (nm : ByteArray) (now : Int) (full : Bool) (wd room : Int) (vi vp vq vu vs vm : Value) (wst : Int) : Array Value := #[.string nm, .int .i64 now, .bool full, .int .i64 wd, .int .i64 room, vi, vp, vq, vu, vs, vm, .int .i64 wst]
/-- A world as a value. -/
abbrev wval (nm : ByteArray) (now : Int) (full : Bool) (wd room : Int) (vi vp vq vu vs vm : Value) (wst : Int) : Value := .agg #[.string nm, .int .i64 now, .bool full, .int .i64 wd, .int .i64 room, vi, vp, vq, vu, vs, vm, .int .i64 wst]
/-- What a world is read as. -/
structure Wd where
  nm : ByteArray
  now : Int
  full : Bool
  wd : Int
  room : Int
  its : Itms
  ts : List ByteArray
  ps : Prs
  bs : List Bool
  ss : Srs
  ms : Mgs
  wst : Int
structure RdW (w : World) (vi vp vq vu vs vm : Value) (x : Wd) : Prop where
  i : RdI w vi x.its
  p : Reads w vp x.ts
  q : RdP w vq x.ps
  u : RdB w vu x.bs
  s : RdS w vs x.ss
  m : RdM w vm x.ms
theorem RdW.below {w w' : World} {vi vp vq vu vs vm : Value} {x : Wd} (h : RdW w vi vp vq vu vs vm x) (hb : Below w.heap.size w w') : RdW w' vi vp vq vu vs vm x := ⟨h.i.below hb, h.p.below hb, h.q.below hb, h.u.below hb, h.s.below hb, h.m.below hb⟩
structure WFits (n : Nat) (x : Wd) : Prop where
  nm : x.nm.size ≤ n
  li : x.its.length ≤ n
  si : ∀ i, (itx x.its i).size ≤ n
  lp : x.ts.length ≤ n
  sp : ∀ i, (tv x.ts i).size ≤ n
  lq : x.ps.length ≤ n
  fq : PsFit n x.ps
  lu : x.bs.length ≤ n
  ls : x.ss.length ≤ n
  fs : SsFit n x.ss
  lm : x.ms.length ≤ n
  fm : MsFit n x.ms
set_option maxRecDepth 100000 in
set_option maxHeartbeats 2000000 in
theorem eqWorld_any (x : Wd) (vi vp vq vu vs vm vi' vp' vq' vu' vs' vm' : Value) (w : World) (h : RdW w vi vp vq vu vs vm x) (h' : RdW w vi' vp' vq' vu' vs' vm' x) (hf : WFits maxLen x) :
    Calls Tryz.prog 10 #[wval x.nm x.now x.full x.wd x.room vi vp vq vu vs vm x.wst, wval x.nm x.now x.full x.wd x.room vi' vp' vq' vu' vs' vm' x.wst] w fun e w' => e = .returned (.bool true) ∧ Below w.heap.size w w' := by
  obtain ⟨nm, now, full, wd, room, its, ts, ps, bs, ss, ms, wst⟩ := x
  obtain ⟨hi, hp, hq, hu, hs, hm⟩ := h
  obtain ⟨hi', hp', hq', hu', hs', hm'⟩ := h'
  dsimp only at *
  obtain ⟨ai1, ci1, rfl, _⟩ := id hi
  obtain ⟨ai2, ci2, rfl, _⟩ := id hi'
  obtain ⟨ap1, cp1, rfl, _⟩ := hp.form
  obtain ⟨ap2, cp2, rfl, _⟩ := hp'.form
  obtain ⟨aq1, cq1, rfl, _⟩ := id hq
  obtain ⟨aq2, cq2, rfl, _⟩ := id hq'
  obtain ⟨au1, cu1, rfl, _⟩ := id hu
  obtain ⟨au2, cu2, rfl, _⟩ := id hu'
  obtain ⟨as1, cs1, rfl, _⟩ := id hs
  obtain ⟨as2, cs2, rfl, _⟩ := id hs'
  obtain ⟨am1, cm1, rfl, _⟩ := id hm
  obtain ⟨am2, cm2, rfl, _⟩ := id hm'
  have hA := ((Below.refl w.heap.size w).alloc (Nat.le_refl _) (.cells #[.string nm, .int .i64 now, .bool full, .int .i64 wd, .int .i64 room, .slice ai1 its.length ci1, .slice ap1 ts.length cp1, .slice aq1 ps.length cq1, .slice au1 bs.length cu1, .slice as1 ss.length cs1, .slice am1 ms.length cm1, .int .i64 wst] 42)).alloc (by simp) (.cells #[.string nm, .int .i64 now, .bool full, .int .i64 wd, .int .i64 room, .slice ai2 its.length ci2, .slice ap2 ts.length cp2, .slice aq2 ps.length cq2, .slice au2 bs.length cu2, .slice as2 ss.length cs2, .slice am2 ms.length cm2, .int .i64 wst] 42)
  have HN1 := hid ((Blk.new w 42 #[.string nm, .int .i64 now, .bool full, .int .i64 wd, .int .i64 room, .slice ai1 its.length ci1, .slice ap1 ts.length cp1, .slice aq1 ps.length cq1, .slice au1 bs.length cu1, .slice as1 ss.length cs1, .slice am1 ms.length cm1, .int .i64 wst]).alloc (.cells #[.string nm, .int .i64 now, .bool full, .int .i64 wd, .int .i64 room, .slice ai2 its.length ci2, .slice ap2 ts.length cp2, .slice aq2 ps.length cq2, .slice au2 bs.length cu2, .slice as2 ss.length cs2, .slice am2 ms.length cm2, .int .i64 wst] 42))
  have hN2 := Blk.new (w.alloc (.cells #[.string nm, .int .i64 now, .bool full, .int .i64 wd, .int .i64 room, .slice ai1 its.length ci1, .slice ap1 ts.length cp1, .slice aq1 ps.length cq1, .slice au1 bs.length cu1, .slice as1 ss.length cs1, .slice am1 ms.length cm1, .int .i64 wst] 42)) 42 #[.string nm, .int .i64 now, .bool full, .int .i64 wd, .int .i64 room, .slice ai2 its.length ci2, .slice ap2 ts.length cp2, .slice aq2 ps.length cq2, .slice au2 bs.length cu2, .slice as2 ss.length cs2, .slice am2 ms.length cm2, .int .i64 wst]
  rw [World.size_alloc] at hN2
  have HN2 := hid hN2
  have HE := hid (eqFetch_any nm now full wd room _ _ _ _ _ _ its ts ps _ (hi.below hA) (hp.below hA) (hq.below hA) (hi'.below hA) (hp'.below hA) (hq'.below hA) hf.li hf.lp hf.lq hf.fq)
  have HEU := hid fun W a b => eqBoolS_any (.slice au1 bs.length cu1) (.slice au2 bs.length cu2) bs W a b hf.lu
  have HES := hid fun W a b => eqStoreS_any (.slice as1 ss.length cs1) (.slice as2 ss.length cs2) ss W a b hf.ls hf.fs
  have HEM := hid fun W a b => eqMessageS_any (.slice am1 ms.length cm1) (.slice am2 ms.length cm2) ms W a b hf.lm
  have HU := hid (hu.below hA)
  have HU' := hid (hu'.below hA)
  have HS := hid (hs.below hA)
  have HS' := hid (hs'.below hA)
  have HM := hid (hm.below hA)
  have HM' := hid (hm'.below hA)
  have HA := hid hA
  clear hi hi' hp hp' hq hq' hu hu' hs hs' hm hm' hA hN2 hf
  go_enter Tryz.func10, Tryz.ntmps10
  go_wp2_with fail
  refine HE.out.mono ?_
  rintro e w1 ⟨rfl, hb1⟩
  have c1 : w1.cell? ⟨w.heap.size, 8, none⟩ = some (.slice au1 bs.length cu1) := (HN1.out.below hb1).cell 8
  have c2 : w1.cell? ⟨w.heap.size + 1, 8, none⟩ = some (.slice au2 bs.length cu2) := (HN2.out.below hb1).cell 8
  have HF1 := hid (HEU.out w1 (HU.out.below hb1) (HU'.out.below hb1))
  have HB := hid hb1
  clear hb1
  go_wp2_with fail
  refine HF1.out.mono ?_
  rintro e w2 ⟨rfl, hb2⟩
  have B2 := HB.out.trans (hb2.mono HB.out.size)
  clear c1 c2
  have c1 : w2.cell? ⟨w.heap.size, 9, none⟩ = some (.slice as1 ss.length cs1) := (HN1.out.below B2).cell 9
  have c2 : w2.cell? ⟨w.heap.size + 1, 9, none⟩ = some (.slice as2 ss.length cs2) := (HN2.out.below B2).cell 9
  have HF2 := hid (HES.out w2 (HS.out.below B2) (HS'.out.below B2))
  have HB2 := hid B2
  clear hb2 B2
  go_wp2_with fail
  refine HF2.out.mono ?_
  rintro e w3 ⟨rfl, hb3⟩
  have B3 := HB2.out.trans (hb3.mono HB2.out.size)
  clear c1 c2
  have c1 : w3.cell? ⟨w.heap.size, 10, none⟩ = some (.slice am1 ms.length cm1) := (HN1.out.below B3).cell 10
  have c2 : w3.cell? ⟨w.heap.size + 1, 10, none⟩ = some (.slice am2 ms.length cm2) := (HN2.out.below B3).cell 10
  have HF3 := hid (HEM.out w3 (HM.out.below B3) (HM'.out.below B3))
  have HB3 := hid B3
  clear hb3 B3
  go_wp2_with fail
  refine HF3.out.mono ?_
  rintro e w4 ⟨rfl, hb4⟩
  have B4 := HB3.out.trans (hb4.mono HB3.out.size)
  clear c1 c2
  have c1 : w4.cell? ⟨w.heap.size, 11, none⟩ = some (.int .i64 wst) := (HN1.out.below B4).cell 11
  have c2 : w4.cell? ⟨w.heap.size + 1, 11, none⟩ = some (.int .i64 wst) := (HN2.out.below B4).cell 11
  have HB4 := hid (HA.out.trans (B4.mono (by simp; omega)))
  clear hb4 B4
  go_wp2
  go_ret
  exact ⟨by simp, HB4.out⟩
end Go.Proofs.YtlnkhbnbcmllaaaGreat
