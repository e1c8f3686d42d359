import Derived.Test.YtkghbegdjeehaaaGreatDoorShort
import Derived.Test.YtkghbegdjeehaaaGreatDoorPeers
import Derived.Test.YtkghbegdjeehaaaGreatDoorFetchTo
/- Messages, rows of stores and of booleans; worlds as arguments: whether two are the same. -/
namespace Go.Proofs.YtkghbegdjeehaaaGreatDoor
open Go.RowKit
structure Mg where
 fr : Int
 to : Int
 sum : ByteArray
 has : Bool
 text : ByteArray
abbrev Mgs := List Mg
def mg0 : Mg := ⟨0, 0, ByteArray.empty, false, ByteArray.empty⟩
def mat (ms : Mgs) (i : Nat) : Mg := ms.getD i mg0
/-- Five cells that read as a message. -/
structure Mg5 (w : World) (b o : Nat) (p : Mg) : Prop where
 lt : b < w.heap.size
 c0 : w.cell? ⟨b, o, none⟩ = some (.int .i64 p.fr)
 c1 : w.cell? ⟨b, o + 1, none⟩ = some (.int .i64 p.to)
 c2 : w.cell? ⟨b, o + 2, none⟩ = some (.string p.sum)
 c3 : w.cell? ⟨b, o + 3, none⟩ = some (.bool p.has)
 c4 : w.cell? ⟨b, o + 4, none⟩ = some (.string p.text)
theorem Mg5.below {w w' : World} {b o : Nat} {p : Mg} (h : Mg5 w b o p) (hb : Below w.heap.size w w') : Mg5 w' b o p :=
 ⟨Nat.lt_of_lt_of_le h.lt hb.size, (hb.cell (p := ⟨b, o, none⟩) h.lt).trans h.c0, (hb.cell (p := ⟨b, o + 1, none⟩) h.lt).trans h.c1, (hb.cell (p := ⟨b, o + 2, none⟩) h.lt).trans h.c2, (hb.cell (p := ⟨b, o + 3, none⟩) h.lt).trans h.c3, (hb.cell (p := ⟨b, o + 4, none⟩) h.lt).trans h.c4⟩
def RdM (w : World) (v : Value) (ms : Mgs) : Prop :=
 ∃ a cap, v = .slice a ms.length cap ∧ ∀ i, i < ms.length → ∃ b off, a = some ⟨b, off, none⟩ ∧ Mg5 w b (off + i * 5) (mat ms i)
theorem RdM.below {w w' : World} {v : Value} {ms : Mgs} (h : RdM w v ms) (hb : Below w.heap.size w w') : RdM w' v ms := by
 obtain ⟨a, cap, e, hc⟩ := h
 refine ⟨a, cap, e, fun i hi => ?_⟩
 obtain ⟨b, off, ha, h5⟩ := hc i hi
 exact ⟨b, off, ha, h5.below hb⟩
/-- A store as a list of cells tells it. -/
structure Sr where
 wd : Int
 room : Int
 its : Itms
 ts : List ByteArray
abbrev Srs := List Sr
def sr0 : Sr := ⟨0, 0, [], []⟩
def sat (ss : Srs) (i : Nat) : Sr := ss.getD i sr0
structure Sr4 (w : World) (b o : Nat) (vi vp : Value) (p : Sr) : Prop where
 lt : b < w.heap.size
 c0 : w.cell? ⟨b, o, none⟩ = some (.int .i64 p.wd)
 c1 : w.cell? ⟨b, o + 1, none⟩ = some (.int .i64 p.room)
 c2 : w.cell? ⟨b, o + 2, none⟩ = some vi
 c3 : w.cell? ⟨b, o + 3, none⟩ = some vp
 ri : RdI w vi p.its
 rp : Reads w vp p.ts
theorem Sr4.below {w w' : World} {b o : Nat} {vi vp : Value} {p : Sr} (h : Sr4 w b o vi vp p) (hb : Below w.heap.size w w') : Sr4 w' b o vi vp p :=
 ⟨Nat.lt_of_lt_of_le h.lt hb.size, (hb.cell (p := ⟨b, o, none⟩) h.lt).trans h.c0, (hb.cell (p := ⟨b, o + 1, none⟩) h.lt).trans h.c1, (hb.cell (p := ⟨b, o + 2, none⟩) h.lt).trans h.c2, (hb.cell (p := ⟨b, o + 3, none⟩) h.lt).trans h.c3, h.ri.below hb, h.rp.below hb⟩
def RdS (w : World) (v : Value) (ss : Srs) : Prop :=
 ∃ a cap, v = .slice a ss.length cap ∧ ∀ i, i < ss.length → ∃ b off vi vp, a = some ⟨b, off, none⟩ ∧ Sr4 w b (off + i * 4) vi vp (sat ss i)
theorem RdS.below {w w' : World} {v : Value} {ss : Srs} (h : RdS w v ss) (hb : Below w.heap.size w w') : RdS w' v ss := by
 obtain ⟨a, cap, e, hc⟩ := h
 refine ⟨a, cap, e, fun i hi => ?_⟩
 obtain ⟨b, off, vi, vp, ha, h5⟩ := hc i hi
 exact ⟨b, off, vi, vp, ha, h5.below hb⟩
/-- A slice that reads as a list of booleans. -/
def RdB (w : World) (v : Value) (bs : List Bool) : Prop :=
 ∃ a cap, v = .slice a bs.length cap ∧ ∀ i, i < bs.length → ∃ b off, a = some ⟨b, off, none⟩ ∧ b < w.heap.size ∧ w.cell? ⟨b, off + i, none⟩ = some (.bool (bs.getD i false))
theorem RdB.below {w w' : World} {v : Value} {bs : List Bool} (h : RdB w v bs) (hb : Below w.heap.size w w') : RdB w' v bs := by
 obtain ⟨a, cap, e, hc⟩ := h
 refine ⟨a, cap, e, fun i hi => ?_⟩
 obtain ⟨b, off, ha, hl, h5⟩ := hc i hi
 exact ⟨b, off, ha, Nat.lt_of_lt_of_le hl hb.size, (hb.cell (p := ⟨b, off + i, none⟩) hl).trans h5⟩
set_option maxRecDepth 100000 in
set_option maxHeartbeats 400000 in
theorem eqMessage_any (a b : Int) (s : ByteArray) (h : Bool) (x : ByteArray) (w : World) :
  Calls Tryz.prog 28 #[.agg #[.int .i64 a, .int .i64 b, .string s, .bool h, .string x], .agg #[.int .i64 a, .int .i64 b, .string s, .bool h, .string x]] w fun e w' => e = .returned (.bool true) ∧ Below w.heap.size w w' := by
 have hA := hid (((Below.refl w.heap.size w).alloc (Nat.le_refl _) (.cells #[.int .i64 a, .int .i64 b, .string s, .bool h, .string x] 56)).alloc (by simp) (.cells #[.int .i64 a, .int .i64 b, .string s, .bool h, .string x] 56))
 cases h <;>
 ·go_enter Tryz.func28, Tryz.ntmps28
  go_wp2
  go_ret
  exact ⟨by simp, hA.out⟩
set_option maxRecDepth 100000 in
set_option maxHeartbeats 2000000 in
theorem eqMessageS_any (va vb : Value) (ms : Mgs) (w : World) (ha : RdM w va ms) (hb : RdM w vb ms) (hl : ms.length ≤ maxLen) :
  Calls Tryz.prog 9 #[va, vb] w fun e w' => e = .returned (.bool true) ∧ Below w.heap.size w w' := by
 unfold maxLen at hl
 obtain ⟨a, ca, rfl, hca⟩ := ha
 obtain ⟨b, cb, rfl, hcb⟩ := hb
 have HCA := hid hca
 have HCB := hid hcb
 clear hca hcb
 go_enter Tryz.func9, Tryz.ntmps9
 go_wp2
 go_loopw [5] (fun i wr => ∃ k : Nat, k ≤ ms.length ∧ i = .int .i64 k ∧ Below w.heap.size w wr) (fun i _ => ms.length - (intOf i).toNat)
 case atStart => exact ⟨0, Nat.zero_le _, rfl, Below.refl _ _⟩
 case round =>
  obtain ⟨k, hk, rfl, hbl⟩ := hrel
  by_cases hlt : k < ms.length
  ·obtain ⟨b1, o1, rfl, h1⟩ := HCA.out k hlt
   obtain ⟨b2, o2, rfl, h2⟩ := HCB.out k hlt
   have g1 := h1.below hbl
   have g2 := h2.below hbl
   generalize mat ms k = p at *
   obtain ⟨pf, pt, ps, ph, px⟩ := p
   obtain ⟨x0, x1, x2, x3, x4, x5⟩ := g1
   obtain ⟨y0, y1, y2, y3, y4, y5⟩ := g2
   dsimp only at x1 x2 x3 x4 x5 y1 y2 y3 y4 y5
   have HE := hid fun W => eqMessage_any pf pt ps ph px W
   have HBL := hid hbl
   clear h1 h2 hbl
   go_wp2_with fail
   refine wp_region_held (S := fun w' => w'.cell? ⟨b1, o1 + k * 5, none⟩ = some (.int .i64 pf) ∧ w'.cell? ⟨b1, o1 + k * 5 + 1, none⟩ = some (.int .i64 pt) ∧ w'.cell? ⟨b1, o1 + k * 5 + 2, none⟩ = some (.string ps) ∧ w'.cell? ⟨b1, o1 + k * 5 + 3, none⟩ = some (.bool ph) ∧ w'.cell? ⟨b1, o1 + k * 5 + 4, none⟩ = some (.string px) ∧ w'.cell? ⟨b2, o2 + k * 5, none⟩ = some (.int .i64 pf) ∧ w'.cell? ⟨b2, o2 + k * 5 + 1, none⟩ = some (.int .i64 pt) ∧ w'.cell? ⟨b2, o2 + k * 5 + 2, none⟩ = some (.string ps) ∧ w'.cell? ⟨b2, o2 + k * 5 + 3, none⟩ = some (.bool ph) ∧ w'.cell? ⟨b2, o2 + k * 5 + 4, none⟩ = some (.string px)) (by kernel_rfl) ?_
   change wpAnyH _ _ _ _ _ _ _ _ (World.drew _)
   have hS0 : wr.drew.cell? ⟨b1, o1 + k * 5, none⟩ = some (.int .i64 pf) ∧ wr.drew.cell? ⟨b1, o1 + k * 5 + 1, none⟩ = some (.int .i64 pt) ∧ wr.drew.cell? ⟨b1, o1 + k * 5 + 2, none⟩ = some (.string ps) ∧ wr.drew.cell? ⟨b1, o1 + k * 5 + 3, none⟩ = some (.bool ph) ∧ wr.drew.cell? ⟨b1, o1 + k * 5 + 4, none⟩ = some (.string px) ∧ wr.drew.cell? ⟨b2, o2 + k * 5, none⟩ = some (.int .i64 pf) ∧ wr.drew.cell? ⟨b2, o2 + k * 5 + 1, none⟩ = some (.int .i64 pt) ∧ wr.drew.cell? ⟨b2, o2 + k * 5 + 2, none⟩ = some (.string ps) ∧ wr.drew.cell? ⟨b2, o2 + k * 5 + 3, none⟩ = some (.bool ph) ∧ wr.drew.cell? ⟨b2, o2 + k * 5 + 4, none⟩ = some (.string px) := ⟨x1, x2, x3, x4, x5, y1, y2, y3, y4, y5⟩
   refine tkA 0 (.slice (some ⟨b1, o1, none⟩) ms.length ca) rfl hS0 ?_
   refine tkA 1 (.int .i64 (k : Nat)) rfl hS0 ?_
   refine tkA 2 (.pointer (some ⟨b1, o1 + k * 5, none⟩)) rfl hS0 ?_
   refine tkA 3 (.agg #[.int .i64 pf, .int .i64 pt, .string ps, .bool ph, .string px]) rfl hS0 ?_
   refine tkA 4 (.slice (some ⟨b2, o2, none⟩) ms.length cb) rfl hS0 ?_
   refine tkA 5 (.int .i64 (k : Nat)) rfl hS0 ?_
   refine tkA 6 (.pointer (some ⟨b2, o2 + k * 5, none⟩)) rfl hS0 ?_
   refine tkA 7 (.agg #[.int .i64 pf, .int .i64 pt, .string ps, .bool ph, .string px]) rfl hS0 ?_
   have hec := enters_of Tryz.func28 (by kernel_rfl) rfl
   have hbd : Below wr.heap.size wr wr.drew := below_drewN (Below.refl _ _) 1
   refine held_one 8 (by kernel_rfl) (op_calls (f := 28) (args := #[.agg #[.int .i64 pf, .int .i64 pt, .string ps, .bool ph, .string px], .agg #[.int .i64 pf, .int .i64 pt, .string ps, .bool ph, .string px]]) rfl rfl (by go_simp) (HE.out _) ?_)
   rintro e w1 ⟨rfl, hb1⟩
   have hb1' : Below wr.heap.size wr w1 := ⟨hb1.os, hb1.tape, hb1.output, hb1.size, hb1.block⟩
   have K := fun (b o : Nat) (v : Value) (hlt : b < wr.heap.size) (h : wr.cell? ⟨b, o, none⟩ = some v) => (hb1'.cell (p := ⟨b, o, none⟩) hlt).trans h
   have hS1 : w1.cell? ⟨b1, o1 + k * 5, none⟩ = some (.int .i64 pf) ∧ w1.cell? ⟨b1, o1 + k * 5 + 1, none⟩ = some (.int .i64 pt) ∧ w1.cell? ⟨b1, o1 + k * 5 + 2, none⟩ = some (.string ps) ∧ w1.cell? ⟨b1, o1 + k * 5 + 3, none⟩ = some (.bool ph) ∧ w1.cell? ⟨b1, o1 + k * 5 + 4, none⟩ = some (.string px) ∧ w1.cell? ⟨b2, o2 + k * 5, none⟩ = some (.int .i64 pf) ∧ w1.cell? ⟨b2, o2 + k * 5 + 1, none⟩ = some (.int .i64 pt) ∧ w1.cell? ⟨b2, o2 + k * 5 + 2, none⟩ = some (.string ps) ∧ w1.cell? ⟨b2, o2 + k * 5 + 3, none⟩ = some (.bool ph) ∧ w1.cell? ⟨b2, o2 + k * 5 + 4, none⟩ = some (.string px) := ⟨K _ _ _ x0 x1, K _ _ _ x0 x2, K _ _ _ x0 x3, K _ _ _ x0 x4, K _ _ _ x0 x5, K _ _ _ y0 y1, K _ _ _ y0 y2, K _ _ _ y0 y3, K _ _ _ y0 y4, K _ _ _ y0 y5⟩
   have HB1 := hid (HBL.out.trans (hb1'.mono HBL.out.size))
   clear hb1 hb1' hS0 x1 x2 x3 x4 x5 y1 y2 y3 y4 y5 K hbd
   refine ⟨_, rfl, hS1, ?_⟩
   refine tkA 9 (.bool false) rfl hS1 ?_
   refine wpAnyH_done (by kernel_rfl) ?_ _
   clear hS1
   go_simp
   go_wp2
   go_roundw
   case rel => exact ⟨k + 1, by omega, by go_num, HB1.out⟩
   case measure => simp [intOf]; omega
  ·go_wp2
   go_ret
   exact ⟨by simp, hbl⟩
/-- What a world is read as. -/
structure Wd where
 nm : ByteArray
 now : Int
 full : Bool
 wd : Int
 room : Int
 its : Itms
 ts : List ByteArray
 ps : Prs
 bs : List Bool
 ss : Srs
 ms : Mgs
 wst : Int
structure RdW (w : World) (vi vp vq vu vs vm : Value) (x : Wd) : Prop where
 i : RdI w vi x.its
 p : Reads w vp x.ts
 q : RdP w vq x.ps
 u : RdB w vu x.bs
 s : RdS w vs x.ss
 m : RdM w vm x.ms
theorem RdW.below {w w' : World} {vi vp vq vu vs vm : Value} {x : Wd} (h : RdW w vi vp vq vu vs vm x) (hb : Below w.heap.size w w') : RdW w' vi vp vq vu vs vm x := ⟨h.i.below hb, h.p.below hb, h.q.below hb, h.u.below hb, h.s.below hb, h.m.below hb⟩
end Go.Proofs.YtkghbegdjeehaaaGreatDoor
/- Rows of messages of their own; laws.markMessageS and laws.heldMessageS. -/
namespace Go.Proofs.YtkghbegdjeehaaaGreatDoor
open Go.RowKit
def cellsG (ms : Mgs) : List Value := ms.flatMap fun q => [Value.int .i64 q.fr, .int .i64 q.to, .string q.sum, .bool q.has, .string q.text]
theorem cellsG_len : ∀ ms : Mgs, (cellsG ms).length = ms.length * 5
 | [] => rfl
 | q :: r => by
  have := cellsG_len r
  simp only [cellsG, List.flatMap_cons, List.length_append, List.length_cons, List.length_nil] at this ⊢
  omega
structure G5 (l : List Value) (o : Nat) (p : Mg) : Prop where
 c0 : l[o]? = some (.int .i64 p.fr)
 c1 : l[o + 1]? = some (.int .i64 p.to)
 c2 : l[o + 2]? = some (.string p.sum)
 c3 : l[o + 3]? = some (.bool p.has)
 c4 : l[o + 4]? = some (.string p.text)
theorem cellsG_at : ∀ (ms : Mgs) (i : Nat), i < ms.length → G5 (cellsG ms) (i * 5) (mat ms i)
 | [], i, h => absurd h (by simp)
 | q :: r, 0, _ => by constructor <;> simp [cellsG, mat]
 | q :: r, i + 1, h => by
  have ih := cellsG_at r i (by simpa using h)
  have e : (i + 1) * 5 = i * 5 + 1 + 1 + 1 + 1 + 1 := by omega
  have hc : cellsG (q :: r) = .int .i64 q.fr :: .int .i64 q.to :: .string q.sum :: .bool q.has :: .string q.text :: cellsG r := rfl
  have hp : mat (q :: r) (i + 1) = mat r i := rfl
  rw [e, hc, hp]
  refine ⟨?_, ?_, ?_, ?_, ?_⟩
  ·simpa using ih.c0
  ·rw [show i * 5 + 1 + 1 + 1 + 1 + 1 + 1 = i * 5 + 1 + 1 + 1 + 1 + 1 + 1 from rfl]; simpa using ih.c1
  ·rw [show i * 5 + 1 + 1 + 1 + 1 + 1 + 2 = i * 5 + 2 + 1 + 1 + 1 + 1 + 1 by omega]; simpa using ih.c2
  ·rw [show i * 5 + 1 + 1 + 1 + 1 + 1 + 3 = i * 5 + 3 + 1 + 1 + 1 + 1 + 1 by omega]; simpa using ih.c3
  ·rw [show i * 5 + 1 + 1 + 1 + 1 + 1 + 4 = i * 5 + 4 + 1 + 1 + 1 + 1 + 1 by omega]; simpa using ih.c4
theorem cellsG_set (ms : Mgs) (i : Nat) (p : Mg) (h : i < ms.length) : (((((cellsG ms).set (i * 5) (.int .i64 p.fr)).set (i * 5 + 1) (.int .i64 p.to)).set (i * 5 + 2) (.string p.sum)).set (i * 5 + 3) (.bool p.has)).set (i * 5 + 4) (.string p.text) = cellsG (ms.set i p) := by
 induction ms generalizing i with
 | nil => simp at h
 | cons q r ih =>
  have c : ∀ (q : Mg) (s : Mgs), cellsG (q :: s) = .int .i64 q.fr :: .int .i64 q.to :: .string q.sum :: .bool q.has :: .string q.text :: cellsG s := fun q s => rfl
  cases i with
  | zero => simp [cellsG]
  | succ i =>
   have := ih i (by simpa using h)
   have e : (i + 1) * 5 = i * 5 + 1 + 1 + 1 + 1 + 1 := by omega
   have e1 : i * 5 + 1 + 1 + 1 + 1 + 1 + 1 = (i * 5 + 1) + 1 + 1 + 1 + 1 + 1 := by omega
   have e2 : i * 5 + 1 + 1 + 1 + 1 + 1 + 2 = (i * 5 + 2) + 1 + 1 + 1 + 1 + 1 := by omega
   have e3 : i * 5 + 1 + 1 + 1 + 1 + 1 + 3 = (i * 5 + 3) + 1 + 1 + 1 + 1 + 1 := by omega
   have e4 : i * 5 + 1 + 1 + 1 + 1 + 1 + 4 = (i * 5 + 4) + 1 + 1 + 1 + 1 + 1 := by omega
   rw [e, e2, e3, e4, c]
   simp only [List.set_cons_succ]
   rw [this, c]
/-- A row of messages of its own. -/
def MsgOwn (w : World) (B : Nat) (v : Value) (ms : Mgs) : Prop := w.ownsRow B 56 5 v ms.length (cellsG ms)
theorem MsgOwn.rd {w : World} {B : Nat} {v : Value} {ms : Mgs} (h : MsgOwn w B v ms) : RdM w v ms := by
 obtain ⟨a, cap, hv⟩ := row_any h
 subst hv
 refine ⟨a, cap, rfl, fun i hi => ?_⟩
 obtain ⟨g, cap', e, hg, hgl⟩ := World.ownsRow.form h (by omega)
 cases e
 have hl := cellsG_len ms
 have q := cellsG_at ms i hi
 unfold MsgOwn at h
 refine ⟨g, 0, rfl, hgl, ?_, ?_, ?_, ?_, ?_⟩
 ·rw [Nat.zero_add]; exact (h.cellAt _ (by omega)).trans q.c0
 ·rw [Nat.zero_add]; exact (h.cellAt _ (by omega)).trans q.c1
 ·rw [Nat.zero_add]; exact (h.cellAt _ (by omega)).trans q.c2
 ·rw [Nat.zero_add]; exact (h.cellAt _ (by omega)).trans q.c3
 ·rw [Nat.zero_add]; exact (h.cellAt _ (by omega)).trans q.c4
def thr (k : Nat) : Bool := (k : Int) % 3 == 0
def markG (k : Nat) : Mg := ⟨k, (k + 1 : Nat), markB (k + 2), thr (k + 3), markB (k + 4)⟩
def marksG (k n : Nat) : Mgs := (List.range n).map fun i => markG (k + 5 * i)
theorem marksG_len (k n : Nat) : (marksG k n).length = n := by simp [marksG]
theorem marksG_at (k n i : Nat) (h : i < n) : mat (marksG k n) i = markG (k + 5 * i) := by simp [marksG, mat, h]
def mixG (k m : Nat) (ms : Mgs) : Mgs := (marksG k m) ++ ms.drop m
theorem mixG_len (k m : Nat) (ms : Mgs) (h : m ≤ ms.length) : (mixG k m ms).length = ms.length := by simp [mixG, marksG_len]; omega
theorem mixG_zero (k : Nat) (ms : Mgs) : mixG k 0 ms = ms := by simp [mixG, marksG]
theorem mixG_all (k : Nat) (ms : Mgs) : mixG k ms.length ms = marksG k ms.length := by simp [mixG]
theorem mixG_succ (k m : Nat) (ms : Mgs) (h : m < ms.length) : (mixG k m ms).set m (markG (k + 5 * m)) = mixG k (m + 1) ms := by
 unfold mixG
 rw [List.set_append_right _ _ (by rw [marksG_len]; exact Nat.le_refl _), marksG_len, Nat.sub_self, List.drop_eq_getElem_cons h, List.set_cons_zero]
 unfold marksG
 rw [List.range_succ, List.map_append]
 simp
set_option maxRecDepth 100000 in
set_option maxHeartbeats 2000000 in
theorem markMessageS_grown (v : Value) (k base : Nat) (ms : Mgs) (w : World) (hown : MsgOwn w base v ms) (h1 : 1 ≤ k) (h2 : k + 5 * ms.length ≤ 4400000) :
  Calls Tryz.prog 11 #[v, .int .i64 k] w fun e w' => e = .returned (.int .i64 ((k + 5 * ms.length : Nat) : Int)) ∧ MsgOwn w' base v (marksG k ms.length) ∧ w.grownBy w' v.ownBlock := by
 unfold MsgOwn at hown ⊢
 obtain ⟨a, cap, rfl⟩ := row_any hown
 have hform : 0 < ms.length → ∃ g, a = some ⟨g, 0, none⟩ := fun h => by
  rcases hown with ⟨_, ⟨e, h0⟩ | ⟨g, cap', cur, e, _⟩⟩
  ·omega
  ·cases e; exact ⟨g, rfl⟩
 have HW := hid hown
 clear hown
 rw [marksG_len]
 go_enter Tryz.func11, Tryz.ntmps11
 go_wp2
 go_loopw [1, 5] (fun x i wr => ∃ m : Nat, m ≤ ms.length ∧ i = .int .i64 m ∧ x = .int .i64 ((k + 5 * m : Nat) : Int) ∧ wr.ownsRow base 56 5 (.slice a ms.length cap) ms.length (cellsG (mixG k m ms)) ∧ w.grownBy wr (Value.slice a ms.length cap).ownBlock) (fun _ i _ => ms.length - (intOf i).toNat)
 case atStart => exact ⟨0, Nat.zero_le _, rfl, rfl, by rw [mixG_zero]; exact HW.out, grown_refl2 _ _⟩
 case round =>
  obtain ⟨m, hm, rfl, rfl, hr, hb⟩ := hrel
  by_cases hlt : m < ms.length
  ·obtain ⟨g, rfl⟩ := hform (by omega)
   have hlm := mixG_len k m ms hm
   obtain ⟨j, hj⟩ : ∃ j, j = k + 5 * m := ⟨_, rfl⟩
   have HX := hid (mixG_succ k m ms hlt)
   have hC := cellsG_at (mixG k m ms) m (by rw [hlm]; exact hlt)
   have HC2 := hid (cellsG_set (mixG k m ms) m (markG (k + 5 * m)) (by rw [hlm]; exact hlt))
   rw [← hj] at HX HC2 ⊢
   have HJ := hid hj
   obtain ⟨j1, hj1⟩ : ∃ j1, j1 = j + 1 := ⟨_, rfl⟩
   obtain ⟨j2, hj2⟩ : ∃ j2, j2 = j + 2 := ⟨_, rfl⟩
   obtain ⟨j3, hj3⟩ : ∃ j3, j3 = j + 3 := ⟨_, rfl⟩
   obtain ⟨j4, hj4⟩ : ∃ j4, j4 = j + 4 := ⟨_, rfl⟩
   obtain ⟨j5, hj5⟩ : ∃ j5, j5 = j + 5 := ⟨_, rfl⟩
   have hw1 : IntKind.i64.wrap ((j : Int) + 1) = (j1 : Int) := by rw [IntKind.wrap_i64]; omega
   have hw2 : IntKind.i64.wrap ((j1 : Int) + 1) = (j2 : Int) := by rw [IntKind.wrap_i64]; omega
   have hw3 : IntKind.i64.wrap ((j2 : Int) + 1) = (j3 : Int) := by rw [IntKind.wrap_i64]; omega
   have hw4 : IntKind.i64.wrap ((j3 : Int) + 1) = (j4 : Int) := by rw [IntKind.wrap_i64]; omega
   have hw5 : IntKind.i64.wrap ((j4 : Int) + 1) = (j5 : Int) := by rw [IntKind.wrap_i64]; omega
   have hmk : markG j = ⟨j, (j1 : Int), markB j2, thr j3, markB j4⟩ := by rw [hj1, hj2, hj3, hj4]; rfl
   have hrem : ((j3 : Int) % 3 == 0) = thr j3 := rfl
   rw [hmk] at HX HC2
   have HM2 := hid fun W => markText_any j2 W (by omega) (by omega)
   have HM4 := hid fun W => markText_any j4 W (by omega) (by omega)
   have HJ5 := hid hj5
   have hj4b : j3 ≤ 4400000 := by omega
   have hql : ms.length ≤ 1000000 := by omega
   have HB := hid hb
   have hl5 := cellsG_len (mixG k m ms)
   generalize hcs : cellsG (mixG k m ms) = cs at *
   clear hcs
   generalize mat (mixG k m ms) m = p at *
   obtain ⟨z0, z1, z2, z3, z4⟩ := p
   obtain ⟨C0, C1, C2, C3, C4⟩ := hC
   dsimp only at C0 C1 C2 C3 C4 HX HC2
   clear hj hj1 hj2 hj3 hj4 hj5 hb hmk h1 h2
   generalize markB j2 = q2 at *
   generalize markB j4 = q4 at *
   obtain ⟨bb, hbb⟩ : ∃ bb, bb = thr j3 := ⟨_, rfl⟩
   rw [← hbb] at HX HC2 hrem
   clear hbb
   have hz : m * 5 + 4 < ms.length * 5 := by omega
   have e0 := (hr.cellAt (m * 5) (by omega)).trans C0
   have f0 := hr.frozenAt (m * 5)
   have r1 := (hr.stored (m * 5) (.int .i64 (j : Int))).1
   have e1 := (r1.cellAt (m * 5 + 1) (by omega)).trans ((List.getElem?_set_ne (by omega)).trans C1)
   have f1 := r1.frozenAt (m * 5 + 1)
   have r2 := (r1.stored (m * 5 + 1) (.int .i64 (j1 : Int))).1
   have G2 := hid (grown_same (grownBy_setCellAt wr g (m * 5) (.int .i64 (j : Int))) (grownBy_setCellAt _ g (m * 5 + 1) (.int .i64 (j1 : Int))))
   go_wp2_with fail
   refine (HM2.out _).mono ?_
   rintro e w3 ⟨rfl, hb3⟩
   have r3 := r2.kept (grown_of_below hb3) (.inr (by simp [Value.ownBlock]))
   have e2 := (r3.cellAt (m * 5 + 2) (by omega)).trans ((List.getElem?_set_ne (by omega)).trans ((List.getElem?_set_ne (by omega)).trans C2))
   have f2 := r3.frozenAt (m * 5 + 2)
   have r4 := (r3.stored (m * 5 + 2) (.string q2)).1
   have e3 := (r4.cellAt (m * 5 + 3) (by omega)).trans ((List.getElem?_set_ne (by omega)).trans ((List.getElem?_set_ne (by omega)).trans ((List.getElem?_set_ne (by omega)).trans C3)))
   have f3 := r4.frozenAt (m * 5 + 3)
   have r5 := (r4.stored (m * 5 + 3) (.bool bb)).1
   have G5 := hid (grown_same (grown_same (grown_same G2.out (grown_below' hb3)) (grownBy_setCellAt w3 g (m * 5 + 2) (.string q2))) (grownBy_setCellAt _ g (m * 5 + 3) (.bool bb)))
   clear e0 f0 e1 f1 hr r1 r2 r3 r4 hb3
   go_wp2_with fail
   refine (HM4.out _).mono ?_
   rintro e w6 ⟨rfl, hb6⟩
   have r6 := r5.kept (grown_of_below hb6) (.inr (by simp [Value.ownBlock]))
   have e4 := (r6.cellAt (m * 5 + 4) (by omega)).trans ((List.getElem?_set_ne (by omega)).trans ((List.getElem?_set_ne (by omega)).trans ((List.getElem?_set_ne (by omega)).trans ((List.getElem?_set_ne (by omega)).trans C4))))
   have f4 := r6.frozenAt (m * 5 + 4)
   have r7 := (r6.stored (m * 5 + 4) (.string q4)).1
   have G7 := hid (grown_same (grown_same G5.out (grown_below' hb6)) (grownBy_setCellAt w6 g (m * 5 + 4) (.string q4)))
   rw [HC2.out, HX.out] at r7
   have HR7 := hid r7
   clear e2 f2 e3 f3 r5 r6 r7 hb6
   go_wp2
   refine ⟨⟨m + 1, by omega, by go_num, by rw [HJ5.out, HJ.out]; go_num, HR7.out, grown_same HB.out G7.out⟩, by simp [intOf]; omega⟩
  ·obtain rfl : m = ms.length := by omega
   have HB := hid hb
   rw [mixG_all] at hr
   have HR := hid hr
   clear hb hr
   go_wp2
   go_ret
   exact ⟨rfl, HR.out, HB.out⟩
set_option maxRecDepth 100000 in
set_option maxHeartbeats 2000000 in
theorem heldMessageS_any (v : Value) (k n : Nat) (w : World) (hv : RdM w v (marksG k n)) (h1 : 1 ≤ k) (h2 : k + 5 * n ≤ 4400000) :
  Calls Tryz.prog 13 #[v, .int .i64 k] w fun e w' => e = .returned (.int .i64 ((k + 5 * n : Nat) : Int)) ∧ Below w.heap.size w w' := by
 obtain ⟨a, ca, rfl, hca⟩ := hv
 rw [marksG_len]
 rw [marksG_len] at hca
 have HC := hid hca
 have hec := enters_of Tryz.func31 (by kernel_rfl) rfl
 clear hca
 go_enter Tryz.func13, Tryz.ntmps13
 go_wp2
 go_loopw [1, 5] (fun x i wr => ∃ m : Nat, m ≤ n ∧ i = .int .i64 m ∧ x = .int .i64 ((k + 5 * m : Nat) : Int) ∧ Below w.heap.size w wr) (fun _ i _ => n - (intOf i).toNat)
 case atStart => exact ⟨0, Nat.zero_le _, rfl, rfl, Below.refl _ _⟩
 case round =>
  obtain ⟨m, hm, rfl, rfl, hb⟩ := hrel
  by_cases hlt : m < n
  ·obtain ⟨b, o, rfl, h5⟩ := HC.out m hlt
   rw [marksG_at k n m hlt] at h5
   obtain ⟨j, hj⟩ : ∃ j, j = k + 5 * m := ⟨_, rfl⟩
   rw [← hj] at h5 ⊢
   have HJ := hid hj
   obtain ⟨j1, hj1⟩ : ∃ j1, j1 = j + 1 := ⟨_, rfl⟩
   obtain ⟨j2, hj2⟩ : ∃ j2, j2 = j + 2 := ⟨_, rfl⟩
   obtain ⟨j3, hj3⟩ : ∃ j3, j3 = j + 3 := ⟨_, rfl⟩
   obtain ⟨j4, hj4⟩ : ∃ j4, j4 = j + 4 := ⟨_, rfl⟩
   obtain ⟨j5, hj5⟩ : ∃ j5, j5 = j + 5 := ⟨_, rfl⟩
   have hw1 : IntKind.i64.wrap ((j : Int) + 1) = (j1 : Int) := by rw [IntKind.wrap_i64]; omega
   have hw2 : IntKind.i64.wrap ((j1 : Int) + 1) = (j2 : Int) := by rw [IntKind.wrap_i64]; omega
   have hw3 : IntKind.i64.wrap ((j2 : Int) + 1) = (j3 : Int) := by rw [IntKind.wrap_i64]; omega
   have hw4 : IntKind.i64.wrap ((j3 : Int) + 1) = (j4 : Int) := by rw [IntKind.wrap_i64]; omega
   have hw5 : IntKind.i64.wrap ((j4 : Int) + 1) = (j5 : Int) := by rw [IntKind.wrap_i64]; omega
   have hmk : markG j = ⟨j, (j1 : Int), markB j2, thr j3, markB j4⟩ := by rw [hj1, hj2, hj3, hj4]; rfl
   have hrem : ((j3 : Int) % 3 == 0) = thr j3 := rfl
   rw [hmk] at h5
   have HM2 := hid fun W => markText_any j2 W (by omega) (by omega)
   have HM4 := hid fun W => markText_any j4 W (by omega) (by omega)
   have HJ5 := hid hj5
   have hj4b : j3 ≤ 4400000 := by omega
   have hql : n ≤ 1000000 := by omega
   obtain ⟨x0, x1, x2, x3, x4, x5⟩ := h5
   dsimp only at x1 x2 x3 x4 x5
   have c0 := (hb.cell (p := ⟨b, o + m * 5, none⟩) x0).trans x1
   have c1 := (hb.cell (p := ⟨b, o + m * 5 + 1, none⟩) x0).trans x2
   have HBR := hid x0
   have HBwr := hid hb
   have HC2 := hid ((hb.cell (p := ⟨b, o + m * 5 + 2, none⟩) x0).trans x3)
   have HC3 : Hid (∀ W, Below w.heap.size w W → W.cell? ⟨b, o + m * 5 + 3, none⟩ = some (.bool (thr j3))) := hid fun W h => (h.cell (p := ⟨b, o + m * 5 + 3, none⟩) x0).trans x4
   have HC4 : Hid (∀ W, Below w.heap.size w W → W.cell? ⟨b, o + m * 5 + 4, none⟩ = some (.string (markB j4))) := hid fun W h => (h.cell (p := ⟨b, o + m * 5 + 4, none⟩) x0).trans x5
   clear hj hj1 hj2 hj3 hj4 hj5 hb hmk h1 h2 x0 x1 x2 x3 x4 x5
   generalize markB j2 = q2 at *
   generalize markB j4 = q4 at *
   obtain ⟨bb, hbb⟩ : ∃ bb, bb = thr j3 := ⟨_, rfl⟩
   rw [← hbb] at HC3 hrem
   clear hbb
   have hS10 : wr.drew.cell? ⟨b, o + m * 5 + 2, none⟩ = some (.string q2) := HC2.out
   go_upto_region 10 with fail
   refine wp_region_held (S := fun w' => w'.cell? ⟨b, o + m * 5 + 2, none⟩ = some (.string q2)) (by kernel_rfl) ?_
   change wpAnyH _ _ _ _ _ _ _ _ (World.drew _)
   refine tkA 0 (.slice (some ⟨b, o, none⟩) n ca) rfl hS10 ?_
   refine tkA 1 (.int .i64 (m : Nat)) rfl hS10 ?_
   refine tkA 2 (.pointer (some ⟨b, o + m * 5, none⟩)) rfl hS10 ?_
   refine tkA 3 (.pointer (some ⟨b, o + m * 5 + 2, none⟩)) rfl hS10 ?_
   refine tkA 4 (.string q2) rfl hS10 ?_
   refine tkA 5 (.int .i64 (j2 : Nat)) rfl hS10 ?_
   refine held_one 6 (by kernel_rfl) (op_calls (f := 31) (args := #[.int .i64 j2]) rfl rfl (by go_simp) (HM2.out _) ?_)
   rintro e w1 ⟨rfl, hb1⟩
   have hb1' : Below wr.heap.size wr w1 := ⟨hb1.os, hb1.tape, hb1.output, hb1.size, hb1.block⟩
   have hT10 : w1.cell? ⟨b, o + m * 5 + 2, none⟩ = some (.string q2) := (hb1'.cell (p := ⟨b, o + m * 5 + 2, none⟩) (Nat.lt_of_lt_of_le HBR.out HBwr.out.size)).trans hS10
   have HBw1 := hid (HBwr.out.trans (hb1'.mono HBwr.out.size))
   clear hb1 hb1' hS10
   refine ⟨_, rfl, hT10, ?_⟩
   refine tkA 7 (.bool false) rfl hT10 ?_
   refine wpAnyH_done (by kernel_rfl) ?_ _
   clear hT10
   go_simp
   have c3 := HC3.out _ HBw1.out
   have HC4w1 := hid (HC4.out _ HBw1.out)
   have hS16 : w1.drew.cell? ⟨b, o + m * 5 + 4, none⟩ = some (.string q4) := HC4w1.out
   go_upto_region 16 with fail
   refine wp_region_held (S := fun w' => w'.cell? ⟨b, o + m * 5 + 4, none⟩ = some (.string q4)) (by kernel_rfl) ?_
   change wpAnyH _ _ _ _ _ _ _ _ (World.drew _)
   refine tkA 0 (.slice (some ⟨b, o, none⟩) n ca) rfl hS16 ?_
   refine tkA 1 (.int .i64 (m : Nat)) rfl hS16 ?_
   refine tkA 2 (.pointer (some ⟨b, o + m * 5, none⟩)) rfl hS16 ?_
   refine tkA 3 (.pointer (some ⟨b, o + m * 5 + 4, none⟩)) rfl hS16 ?_
   refine tkA 4 (.string q4) rfl hS16 ?_
   refine tkA 5 (.int .i64 (j4 : Nat)) rfl hS16 ?_
   refine held_one 6 (by kernel_rfl) (op_calls (f := 31) (args := #[.int .i64 j4]) rfl rfl (by go_simp) (HM4.out _) ?_)
   rintro e w2 ⟨rfl, hb1⟩
   have hb1' : Below w1.heap.size w1 w2 := ⟨hb1.os, hb1.tape, hb1.output, hb1.size, hb1.block⟩
   have hT16 : w2.cell? ⟨b, o + m * 5 + 4, none⟩ = some (.string q4) := (hb1'.cell (p := ⟨b, o + m * 5 + 4, none⟩) (Nat.lt_of_lt_of_le HBR.out HBw1.out.size)).trans hS16
   have HBw2 := hid (HBw1.out.trans (hb1'.mono HBw1.out.size))
   clear hb1 hb1' hS16
   refine ⟨_, rfl, hT16, ?_⟩
   refine tkA 7 (.bool false) rfl hT16 ?_
   refine wpAnyH_done (by kernel_rfl) ?_ _
   clear hT16
   go_simp
   go_wp2
   refine ⟨⟨m + 1, by omega, by go_num, by rw [HJ5.out, HJ.out]; go_num, HBw2.out⟩, by simp [intOf]; omega⟩
  ·obtain rfl : m = n := by omega
   go_wp2
   go_ret
   exact ⟨rfl, hb⟩
end Go.Proofs.YtkghbegdjeehaaaGreatDoor
