import Derived.Test.YtlnkhbnbcmllaaaGreatArgs
import Derived.Test.YtlnkhbnbcmllaaaGreatWorlds
import Derived.Test.YtlnkhbnbcmllaaaGreatPeersHeld
/- Messages as arguments. -/
namespace Go.Proofs.YtlnkhbnbcmllaaaGreat
open Go.RowKit
end Go.Proofs.YtlnkhbnbcmllaaaGreat
/- Copies of rows of booleans, of messages and of stores, in rows of their own. -/
namespace Go.Proofs.YtlnkhbnbcmllaaaGreat
open Go.RowKit
theorem Tryz.infoBool : (Tryz.prog.info? 4).map (fun i => (i.zero, i.size, i.bytes)) = some (some (.bool false), 1, 1) := by kernel_rfl
theorem Tryz.infoMsg : (Tryz.prog.info? 101).map (fun i => (i.zero, i.size, i.bytes)) = some (some (.agg #[.int .i64 0, .int .i64 0, .string ⟨#[]⟩, .bool false, .string ⟨#[]⟩]), 5, 56) := by kernel_rfl
theorem Tryz.infoStore : (Tryz.prog.info? 34).map (fun i => (i.zero, i.size, i.bytes)) = some (some (.agg #[.int .i64 0, .int .i64 0, .slice none 0 0, .slice none 0 0]), 4, 64) := by kernel_rfl
/-- A row of booleans of its own. -/
def OwnB (w : World) (base : Nat) (v : Value) (bs : List Bool) : Prop :=
  ∃ g cs, v = .slice (some ⟨g, 0, none⟩) bs.length bs.length ∧ base ≤ g ∧ Blk w g 4 cs ∧ cs.size = bs.length ∧ ∀ j, j < bs.length → cs[j]? = some (.bool (bs.getD j false))
theorem OwnB.below {w w' : World} {base : Nat} {v : Value} {bs : List Bool} (h : OwnB w base v bs) (hb : Below w.heap.size w w') : OwnB w' base v bs := by
  obtain ⟨g, cs, e, hg, hk, hz, hc⟩ := h
  exact ⟨g, cs, e, hg, hk.below hb, hz, hc⟩
theorem OwnB.kept {w w' : World} {base k : Nat} {v : Value} {bs : List Bool} (h : OwnB w base v bs) (hg : w.grownBy w' (some k)) (hk : k < base) : OwnB w' base v bs := by
  obtain ⟨g, cs, e, hb, hB, hz, hc⟩ := h
  exact ⟨g, cs, e, hb, hB.kept hg (fun e => by have := Option.some.inj e; omega), hz, hc⟩
structure Arr5 (cs : Array Value) (o : Nat) (p : Mg) : Prop where
  c0 : cs[o]? = some (.int .i64 p.fr)
  c1 : cs[o + 1]? = some (.int .i64 p.to)
  c2 : cs[o + 2]? = some (.string p.sum)
  c3 : cs[o + 3]? = some (.bool p.has)
  c4 : cs[o + 4]? = some (.string p.text)
/-- A row of messages of its own. -/
def OwnM (w : World) (base : Nat) (v : Value) (ms : Mgs) : Prop :=
  ∃ g cs, v = .slice (some ⟨g, 0, none⟩) ms.length ms.length ∧ base ≤ g ∧ Blk w g 101 cs ∧ cs.size = ms.length * 5 ∧ ∀ j, j < ms.length → Arr5 cs (j * 5) (mat ms j)
theorem OwnM.below {w w' : World} {base : Nat} {v : Value} {ms : Mgs} (h : OwnM w base v ms) (hb : Below w.heap.size w w') : OwnM w' base v ms := by
  obtain ⟨g, cs, e, hg, hk, hz, hc⟩ := h
  exact ⟨g, cs, e, hg, hk.below hb, hz, hc⟩
theorem OwnM.kept {w w' : World} {base k : Nat} {v : Value} {ms : Mgs} (h : OwnM w base v ms) (hg : w.grownBy w' (some k)) (hk : k < base) : OwnM w' base v ms := by
  obtain ⟨g, cs, e, hb, hB, hz, hc⟩ := h
  exact ⟨g, cs, e, hb, hB.kept hg (fun e => by have := Option.some.inj e; omega), hz, hc⟩
structure Arr4 (w : World) (B : Nat) (cs : Array Value) (o : Nat) (vi vp : Value) (p : Sr) : Prop where
  c0 : cs[o]? = some (.int .i64 p.wd)
  c1 : cs[o + 1]? = some (.int .i64 p.room)
  c2 : cs[o + 2]? = some vi
  c3 : cs[o + 3]? = some vp
  oi : OwnI w B vi p.its
  op : w.ownsRow B 9 1 vp p.ts.length (p.ts.map Value.string)
theorem OwnI.kept {w w' : World} {base k : Nat} {v : Value} {its : Itms} (h : OwnI w base v its) (hg : w.grownBy w' (some k)) (hk : k < base) : OwnI w' base v its := by
  obtain ⟨g, e, hb, hB⟩ := h
  exact ⟨g, e, hb, hB.kept hg (fun e => by have := Option.some.inj e; omega)⟩
theorem Arr4.below {w w' : World} {B : Nat} {cs : Array Value} {o : Nat} {vi vp : Value} {p : Sr} (h : Arr4 w B cs o vi vp p) (hb : Below w.heap.size w w') : Arr4 w' B cs o vi vp p := ⟨h.c0, h.c1, h.c2, h.c3, h.oi.below hb, Below.row hb h.op⟩
theorem Arr4.kept {w w' : World} {B k : Nat} {cs : Array Value} {o : Nat} {vi vp : Value} {p : Sr} (h : Arr4 w B cs o vi vp p) (hg : w.grownBy w' (some k)) (hk : k < B) : Arr4 w' B cs o vi vp p := ⟨h.c0, h.c1, h.c2, h.c3, h.oi.kept hg hk, row_kept h.op hg hk⟩
/-- A row of stores of its own. -/
def OwnS (w : World) (base : Nat) (v : Value) (ss : Srs) : Prop :=
  ∃ g cs, v = .slice (some ⟨g, 0, none⟩) ss.length ss.length ∧ base ≤ g ∧ Blk w g 34 cs ∧ cs.size = ss.length * 4 ∧ ∀ j, j < ss.length → ∃ vi vp, Arr4 w (g + 1) cs (j * 4) vi vp (sat ss j)
theorem OwnS.below {w w' : World} {base : Nat} {v : Value} {ss : Srs} (h : OwnS w base v ss) (hb : Below w.heap.size w w') : OwnS w' base v ss := by
  obtain ⟨g, cs, e, hg, hk, hz, hc⟩ := h
  refine ⟨g, cs, e, hg, hk.below hb, hz, fun j hj => ?_⟩
  obtain ⟨vi, vp, h4⟩ := hc j hj
  exact ⟨vi, vp, h4.below hb⟩
theorem OwnS.kept {w w' : World} {base k : Nat} {v : Value} {ss : Srs} (h : OwnS w base v ss) (hg : w.grownBy w' (some k)) (hk : k < base) : OwnS w' base v ss := by
  obtain ⟨g, cs, e, hb, hB, hz, hc⟩ := h
  refine ⟨g, cs, e, hb, hB.kept hg (fun e => by have := Option.some.inj e; omega), hz, fun j hj => ?_⟩
  obtain ⟨vi, vp, h4⟩ := hc j hj
  exact ⟨vi, vp, h4.kept hg (by omega)⟩
theorem OwnS.rds {w : World} {base : Nat} {v : Value} {ss : Srs} (h : OwnS w base v ss) : RdS w v ss := by
  obtain ⟨g, cs, e, hg, hk, hz, hc⟩ := h
  refine ⟨_, _, e, fun i hi => ?_⟩
  obtain ⟨vi, vp, h4⟩ := hc i hi
  refine ⟨g, 0, vi, vp, rfl, hk.lt, ?_, ?_, ?_, ?_, h4.oi.rdi, Reads.of_row h4.op⟩
  · rw [Nat.zero_add, hk.cell]; exact h4.c0
  · rw [Nat.zero_add, hk.cell]; exact h4.c1
  · rw [Nat.zero_add, hk.cell]; exact h4.c2
  · rw [Nat.zero_add, hk.cell]; exact h4.c3
theorem arr4 (cs : Array Value) (o : Nat) (d0 d1 d2 d3 : Value) (h : o + 4 ≤ cs.size) (j : Nat) : ((((cs.setIfInBounds (o) d0).setIfInBounds (o + 1) d1).setIfInBounds (o + 2) d2).setIfInBounds (o + 3) d3)[j]? = (if o + 3 = j then some d3 else (if o + 2 = j then some d2 else (if o + 1 = j then some d1 else (if o = j then some d0 else cs[j]?)))) := by
  simp only [Array.getElem?_setIfInBounds, Array.size_setIfInBounds, show o < cs.size from by omega, show o + 1 < cs.size from by omega, show o + 2 < cs.size from by omega, show o + 3 < cs.size from by omega, if_true]
end Go.Proofs.YtlnkhbnbcmllaaaGreat
