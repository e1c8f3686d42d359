/- Messages, rows of stores and of booleans; worlds as arguments: whether two are the same. -/
import Derived.Test.YtkghbegdjeehaaaGreatDoorShort
import Derived.Test.YtkghbegdjeehaaaGreatDoorPeers
namespace Go.Proofs.YtkghbegdjeehaaaGreatDoor
open Go.RowKit
structure Mg where
 fr : Int
 to : Int
 sum : ByteArray
 has : Bool
 text : ByteArray
abbrev Mgs := List Mg
def mg0 : Mg := ⟨0, 0, ByteArray.empty, false, ByteArray.empty⟩
def mat (ms : Mgs) (i : Nat) : Mg := ms.getD i mg0
/-- Five cells that read as a message. -/
structure Mg5 (w : World) (b o : Nat) (p : Mg) : Prop where
 lt : b < w.heap.size
 c0 : w.cell? ⟨b, o, none⟩ = some (.int .i64 p.fr)
 c1 : w.cell? ⟨b, o + 1, none⟩ = some (.int .i64 p.to)
 c2 : w.cell? ⟨b, o + 2, none⟩ = some (.string p.sum)
 c3 : w.cell? ⟨b, o + 3, none⟩ = some (.bool p.has)
 c4 : w.cell? ⟨b, o + 4, none⟩ = some (.string p.text)
theorem Mg5.below {w w' : World} {b o : Nat} {p : Mg} (h : Mg5 w b o p) (hb : Below w.heap.size w w') : Mg5 w' b o p :=
 ⟨Nat.lt_of_lt_of_le h.lt hb.size, (hb.cell (p := ⟨b, o, none⟩) h.lt).trans h.c0, (hb.cell (p := ⟨b, o + 1, none⟩) h.lt).trans h.c1, (hb.cell (p := ⟨b, o + 2, none⟩) h.lt).trans h.c2, (hb.cell (p := ⟨b, o + 3, none⟩) h.lt).trans h.c3, (hb.cell (p := ⟨b, o + 4, none⟩) h.lt).trans h.c4⟩
def RdM (w : World) (v : Value) (ms : Mgs) : Prop :=
 ∃ a cap, v = .slice a ms.length cap ∧ ∀ i, i < ms.length → ∃ b off, a = some ⟨b, off, none⟩ ∧ Mg5 w b (off + i * 5) (mat ms i)
theorem RdM.below {w w' : World} {v : Value} {ms : Mgs} (h : RdM w v ms) (hb : Below w.heap.size w w') : RdM w' v ms := by
 obtain ⟨a, cap, e, hc⟩ := h
 refine ⟨a, cap, e, fun i hi => ?_⟩
 obtain ⟨b, off, ha, h5⟩ := hc i hi
 exact ⟨b, off, ha, h5.below hb⟩
/-- A store as a list of cells tells it. -/
structure Sr where
 wd : Int
 room : Int
 its : Itms
 ts : List ByteArray
abbrev Srs := List Sr
def sr0 : Sr := ⟨0, 0, [], []⟩
def sat (ss : Srs) (i : Nat) : Sr := ss.getD i sr0
structure Sr4 (w : World) (b o : Nat) (vi vp : Value) (p : Sr) : Prop where
 lt : b < w.heap.size
 c0 : w.cell? ⟨b, o, none⟩ = some (.int .i64 p.wd)
 c1 : w.cell? ⟨b, o + 1, none⟩ = some (.int .i64 p.room)
 c2 : w.cell? ⟨b, o + 2, none⟩ = some vi
 c3 : w.cell? ⟨b, o + 3, none⟩ = some vp
 ri : RdI w vi p.its
 rp : Reads w vp p.ts
theorem Sr4.below {w w' : World} {b o : Nat} {vi vp : Value} {p : Sr} (h : Sr4 w b o vi vp p) (hb : Below w.heap.size w w') : Sr4 w' b o vi vp p :=
 ⟨Nat.lt_of_lt_of_le h.lt hb.size, (hb.cell (p := ⟨b, o, none⟩) h.lt).trans h.c0, (hb.cell (p := ⟨b, o + 1, none⟩) h.lt).trans h.c1, (hb.cell (p := ⟨b, o + 2, none⟩) h.lt).trans h.c2, (hb.cell (p := ⟨b, o + 3, none⟩) h.lt).trans h.c3, h.ri.below hb, h.rp.below hb⟩
def RdS (w : World) (v : Value) (ss : Srs) : Prop :=
 ∃ a cap, v = .slice a ss.length cap ∧ ∀ i, i < ss.length → ∃ b off vi vp, a = some ⟨b, off, none⟩ ∧ Sr4 w b (off + i * 4) vi vp (sat ss i)
theorem RdS.below {w w' : World} {v : Value} {ss : Srs} (h : RdS w v ss) (hb : Below w.heap.size w w') : RdS w' v ss := by
 obtain ⟨a, cap, e, hc⟩ := h
 refine ⟨a, cap, e, fun i hi => ?_⟩
 obtain ⟨b, off, vi, vp, ha, h5⟩ := hc i hi
 exact ⟨b, off, vi, vp, ha, h5.below hb⟩
/-- A slice that reads as a list of booleans. -/
def RdB (w : World) (v : Value) (bs : List Bool) : Prop :=
 ∃ a cap, v = .slice a bs.length cap ∧ ∀ i, i < bs.length → ∃ b off, a = some ⟨b, off, none⟩ ∧ b < w.heap.size ∧ w.cell? ⟨b, off + i, none⟩ = some (.bool (bs.getD i false))
theorem RdB.below {w w' : World} {v : Value} {bs : List Bool} (h : RdB w v bs) (hb : Below w.heap.size w w') : RdB w' v bs := by
 obtain ⟨a, cap, e, hc⟩ := h
 refine ⟨a, cap, e, fun i hi => ?_⟩
 obtain ⟨b, off, ha, hl, h5⟩ := hc i hi
 exact ⟨b, off, ha, Nat.lt_of_lt_of_le hl hb.size, (hb.cell (p := ⟨b, off + i, none⟩) hl).trans h5⟩
set_option maxRecDepth 100000 in
set_option maxHeartbeats 400000 in
theorem eqMessage_any (a b : Int) (s : ByteArray) (h : Bool) (x : ByteArray) (w : World) :
  Calls Tryz.prog 28 #[.agg #[.int .i64 a, .int .i64 b, .string s, .bool h, .string x], .agg #[.int .i64 a, .int .i64 b, .string s, .bool h, .string x]] w fun e w' => e = .returned (.bool true) ∧ Below w.heap.size w w' := by
 have hA := hid (((Below.refl w.heap.size w).alloc (Nat.le_refl _) (.cells #[.int .i64 a, .int .i64 b, .string s, .bool h, .string x] 56)).alloc (by simp) (.cells #[.int .i64 a, .int .i64 b, .string s, .bool h, .string x] 56))
 cases h <;>
 ·go_enter Tryz.func28, Tryz.ntmps28
  go_wp2
  go_ret
  exact ⟨by simp, hA.out⟩
set_option maxRecDepth 100000 in
set_option maxHeartbeats 2000000 in
theorem eqMessageS_any (va vb : Value) (ms : Mgs) (w : World) (ha : RdM w va ms) (hb : RdM w vb ms) (hl : ms.length ≤ maxLen) :
  Calls Tryz.prog 9 #[va, vb] w fun e w' => e = .returned (.bool true) ∧ Below w.heap.size w w' := by
 unfold maxLen at hl
 obtain ⟨a, ca, rfl, hca⟩ := ha
 obtain ⟨b, cb, rfl, hcb⟩ := hb
 have HCA := hid hca
 have HCB := hid hcb
 clear hca hcb
 go_enter Tryz.func9, Tryz.ntmps9
 go_wp2
 go_loopw [5] (fun i wr => ∃ k : Nat, k ≤ ms.length ∧ i = .int .i64 k ∧ Below w.heap.size w wr) (fun i _ => ms.length - (intOf i).toNat)
 case atStart => exact ⟨0, Nat.zero_le _, rfl, Below.refl _ _⟩
 case round =>
  obtain ⟨k, hk, rfl, hbl⟩ := hrel
  by_cases hlt : k < ms.length
  ·obtain ⟨b1, o1, rfl, h1⟩ := HCA.out k hlt
   obtain ⟨b2, o2, rfl, h2⟩ := HCB.out k hlt
   have g1 := h1.below hbl
   have g2 := h2.below hbl
   generalize mat ms k = p at *
   obtain ⟨pf, pt, ps, ph, px⟩ := p
   obtain ⟨x0, x1, x2, x3, x4, x5⟩ := g1
   obtain ⟨y0, y1, y2, y3, y4, y5⟩ := g2
   dsimp only at x1 x2 x3 x4 x5 y1 y2 y3 y4 y5
   have HE := hid fun W => eqMessage_any pf pt ps ph px W
   have HBL := hid hbl
   clear h1 h2 hbl
   go_wp2_with fail
   refine wp_region_held (S := fun w' => w'.cell? ⟨b1, o1 + k * 5, none⟩ = some (.int .i64 pf) ∧ w'.cell? ⟨b1, o1 + k * 5 + 1, none⟩ = some (.int .i64 pt) ∧ w'.cell? ⟨b1, o1 + k * 5 + 2, none⟩ = some (.string ps) ∧ w'.cell? ⟨b1, o1 + k * 5 + 3, none⟩ = some (.bool ph) ∧ w'.cell? ⟨b1, o1 + k * 5 + 4, none⟩ = some (.string px) ∧ w'.cell? ⟨b2, o2 + k * 5, none⟩ = some (.int .i64 pf) ∧ w'.cell? ⟨b2, o2 + k * 5 + 1, none⟩ = some (.int .i64 pt) ∧ w'.cell? ⟨b2, o2 + k * 5 + 2, none⟩ = some (.string ps) ∧ w'.cell? ⟨b2, o2 + k * 5 + 3, none⟩ = some (.bool ph) ∧ w'.cell? ⟨b2, o2 + k * 5 + 4, none⟩ = some (.string px)) (by kernel_rfl) ?_
   change wpAnyH _ _ _ _ _ _ _ _ (World.drew _)
   have hS0 : wr.drew.cell? ⟨b1, o1 + k * 5, none⟩ = some (.int .i64 pf) ∧ wr.drew.cell? ⟨b1, o1 + k * 5 + 1, none⟩ = some (.int .i64 pt) ∧ wr.drew.cell? ⟨b1, o1 + k * 5 + 2, none⟩ = some (.string ps) ∧ wr.drew.cell? ⟨b1, o1 + k * 5 + 3, none⟩ = some (.bool ph) ∧ wr.drew.cell? ⟨b1, o1 + k * 5 + 4, none⟩ = some (.string px) ∧ wr.drew.cell? ⟨b2, o2 + k * 5, none⟩ = some (.int .i64 pf) ∧ wr.drew.cell? ⟨b2, o2 + k * 5 + 1, none⟩ = some (.int .i64 pt) ∧ wr.drew.cell? ⟨b2, o2 + k * 5 + 2, none⟩ = some (.string ps) ∧ wr.drew.cell? ⟨b2, o2 + k * 5 + 3, none⟩ = some (.bool ph) ∧ wr.drew.cell? ⟨b2, o2 + k * 5 + 4, none⟩ = some (.string px) := ⟨x1, x2, x3, x4, x5, y1, y2, y3, y4, y5⟩
   refine tkA 0 (.slice (some ⟨b1, o1, none⟩) ms.length ca) rfl hS0 ?_
   refine tkA 1 (.int .i64 (k : Nat)) rfl hS0 ?_
   refine tkA 2 (.pointer (some ⟨b1, o1 + k * 5, none⟩)) rfl hS0 ?_
   refine tkA 3 (.agg #[.int .i64 pf, .int .i64 pt, .string ps, .bool ph, .string px]) rfl hS0 ?_
   refine tkA 4 (.slice (some ⟨b2, o2, none⟩) ms.length cb) rfl hS0 ?_
   refine tkA 5 (.int .i64 (k : Nat)) rfl hS0 ?_
   refine tkA 6 (.pointer (some ⟨b2, o2 + k * 5, none⟩)) rfl hS0 ?_
   refine tkA 7 (.agg #[.int .i64 pf, .int .i64 pt, .string ps, .bool ph, .string px]) rfl hS0 ?_
   have hec := enters_of Tryz.func28 (by kernel_rfl) rfl
   have hbd : Below wr.heap.size wr wr.drew := below_drewN (Below.refl _ _) 1
   refine held_one 8 (by kernel_rfl) (op_calls (f := 28) (args := #[.agg #[.int .i64 pf, .int .i64 pt, .string ps, .bool ph, .string px], .agg #[.int .i64 pf, .int .i64 pt, .string ps, .bool ph, .string px]]) rfl rfl (by go_simp) (HE.out _) ?_)
   rintro e w1 ⟨rfl, hb1⟩
   have hb1' : Below wr.heap.size wr w1 := ⟨hb1.os, hb1.tape, hb1.output, hb1.size, hb1.block⟩
   have K := fun (b o : Nat) (v : Value) (hlt : b < wr.heap.size) (h : wr.cell? ⟨b, o, none⟩ = some v) => (hb1'.cell (p := ⟨b, o, none⟩) hlt).trans h
   have hS1 : w1.cell? ⟨b1, o1 + k * 5, none⟩ = some (.int .i64 pf) ∧ w1.cell? ⟨b1, o1 + k * 5 + 1, none⟩ = some (.int .i64 pt) ∧ w1.cell? ⟨b1, o1 + k * 5 + 2, none⟩ = some (.string ps) ∧ w1.cell? ⟨b1, o1 + k * 5 + 3, none⟩ = some (.bool ph) ∧ w1.cell? ⟨b1, o1 + k * 5 + 4, none⟩ = some (.string px) ∧ w1.cell? ⟨b2, o2 + k * 5, none⟩ = some (.int .i64 pf) ∧ w1.cell? ⟨b2, o2 + k * 5 + 1, none⟩ = some (.int .i64 pt) ∧ w1.cell? ⟨b2, o2 + k * 5 + 2, none⟩ = some (.string ps) ∧ w1.cell? ⟨b2, o2 + k * 5 + 3, none⟩ = some (.bool ph) ∧ w1.cell? ⟨b2, o2 + k * 5 + 4, none⟩ = some (.string px) := ⟨K _ _ _ x0 x1, K _ _ _ x0 x2, K _ _ _ x0 x3, K _ _ _ x0 x4, K _ _ _ x0 x5, K _ _ _ y0 y1, K _ _ _ y0 y2, K _ _ _ y0 y3, K _ _ _ y0 y4, K _ _ _ y0 y5⟩
   have HB1 := hid (HBL.out.trans (hb1'.mono HBL.out.size))
   clear hb1 hb1' hS0 x1 x2 x3 x4 x5 y1 y2 y3 y4 y5 K hbd
   refine ⟨_, rfl, hS1, ?_⟩
   refine tkA 9 (.bool false) rfl hS1 ?_
   refine wpAnyH_done (by kernel_rfl) ?_ _
   clear hS1
   go_simp
   go_wp2
   go_roundw
   case rel => exact ⟨k + 1, by omega, by go_num, HB1.out⟩
   case measure => simp [intOf]; omega
  ·go_wp2
   go_ret
   exact ⟨by simp, hbl⟩
/-- What a world is read as. -/
structure Wd where
 nm : ByteArray
 now : Int
 full : Bool
 wd : Int
 room : Int
 its : Itms
 ts : List ByteArray
 ps : Prs
 bs : List Bool
 ss : Srs
 ms : Mgs
 wst : Int
structure RdW (w : World) (vi vp vq vu vs vm : Value) (x : Wd) : Prop where
 i : RdI w vi x.its
 p : Reads w vp x.ts
 q : RdP w vq x.ps
 u : RdB w vu x.bs
 s : RdS w vs x.ss
 m : RdM w vm x.ms
theorem RdW.below {w w' : World} {vi vp vq vu vs vm : Value} {x : Wd} (h : RdW w vi vp vq vu vs vm x) (hb : Below w.heap.size w w') : RdW w' vi vp vq vu vs vm x := ⟨h.i.below hb, h.p.below hb, h.q.below hb, h.u.below hb, h.s.below hb, h.m.below hb⟩
end Go.Proofs.YtkghbegdjeehaaaGreatDoor
