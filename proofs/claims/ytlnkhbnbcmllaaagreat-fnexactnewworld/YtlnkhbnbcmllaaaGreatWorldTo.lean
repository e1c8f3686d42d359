/- Copies of rows of booleans, of messages and of stores, in rows of their own. -/
import Derived.Test.YtlnkhbnbcmllaaaGreatWorlds
import Derived.Test.YtlnkhbnbcmllaaaGreatFetchTo3
import Derived.Test.YtlnkhbnbcmllaaaGreatMsgArgs
namespace Go.Proofs.YtlnkhbnbcmllaaaGreat
open Go.RowKit
theorem Tryz.infoBool : (Tryz.prog.info? 4).map (fun i => (i.zero, i.size, i.bytes)) = some (some (.bool false), 1, 1) := by kernel_rfl
theorem Tryz.infoMsg : (Tryz.prog.info? 101).map (fun i => (i.zero, i.size, i.bytes)) = some (some (.agg #[.int .i64 0, .int .i64 0, .string ⟨#[]⟩, .bool false, .string ⟨#[]⟩]), 5, 56) := by kernel_rfl
theorem Tryz.infoStore : (Tryz.prog.info? 34).map (fun i => (i.zero, i.size, i.bytes)) = some (some (.agg #[.int .i64 0, .int .i64 0, .slice none 0 0, .slice none 0 0]), 4, 64) := by kernel_rfl
/-- A row of booleans of its own. -/
def OwnB (w : World) (base : Nat) (v : Value) (bs : List Bool) : Prop :=
  ∃ g cs, v = .slice (some ⟨g, 0, none⟩) bs.length bs.length ∧ base ≤ g ∧ Blk w g 4 cs ∧ cs.size = bs.length ∧ ∀ j, j < bs.length → cs[j]? = some (.bool (bs.getD j false))
theorem OwnB.below {w w' : World} {base : Nat} {v : Value} {bs : List Bool} (h : OwnB w base v bs) (hb : Below w.heap.size w w') : OwnB w' base v bs := by
  obtain ⟨g, cs, e, hg, hk, hz, hc⟩ := h
  exact ⟨g, cs, e, hg, hk.below hb, hz, hc⟩
theorem OwnB.kept {w w' : World} {base k : Nat} {v : Value} {bs : List Bool} (h : OwnB w base v bs) (hg : w.grownBy w' (some k)) (hk : k < base) : OwnB w' base v bs := by
  obtain ⟨g, cs, e, hb, hB, hz, hc⟩ := h
  exact ⟨g, cs, e, hb, hB.kept hg (fun e => by have := Option.some.inj e; omega), hz, hc⟩
theorem OwnB.rdb {w : World} {base : Nat} {v : Value} {bs : List Bool} (h : OwnB w base v bs) : RdB w v bs := by
  obtain ⟨g, cs, e, hg, hk, hz, hc⟩ := h
  exact ⟨_, _, e, fun i hi => ⟨g, 0, rfl, hk.lt, by rw [Nat.zero_add, hk.cell]; exact hc i hi⟩⟩
structure Arr5 (cs : Array Value) (o : Nat) (p : Mg) : Prop where
  c0 : cs[o]? = some (.int .i64 p.fr)
  c1 : cs[o + 1]? = some (.int .i64 p.to)
  c2 : cs[o + 2]? = some (.string p.sum)
  c3 : cs[o + 3]? = some (.bool p.has)
  c4 : cs[o + 4]? = some (.string p.text)
/-- A row of messages of its own. -/
def OwnM (w : World) (base : Nat) (v : Value) (ms : Mgs) : Prop :=
  ∃ g cs, v = .slice (some ⟨g, 0, none⟩) ms.length ms.length ∧ base ≤ g ∧ Blk w g 101 cs ∧ cs.size = ms.length * 5 ∧ ∀ j, j < ms.length → Arr5 cs (j * 5) (mat ms j)
theorem OwnM.below {w w' : World} {base : Nat} {v : Value} {ms : Mgs} (h : OwnM w base v ms) (hb : Below w.heap.size w w') : OwnM w' base v ms := by
  obtain ⟨g, cs, e, hg, hk, hz, hc⟩ := h
  exact ⟨g, cs, e, hg, hk.below hb, hz, hc⟩
theorem OwnM.kept {w w' : World} {base k : Nat} {v : Value} {ms : Mgs} (h : OwnM w base v ms) (hg : w.grownBy w' (some k)) (hk : k < base) : OwnM w' base v ms := by
  obtain ⟨g, cs, e, hb, hB, hz, hc⟩ := h
  exact ⟨g, cs, e, hb, hB.kept hg (fun e => by have := Option.some.inj e; omega), hz, hc⟩
theorem OwnM.rdm {w : World} {base : Nat} {v : Value} {ms : Mgs} (h : OwnM w base v ms) : RdM w v ms := by
  obtain ⟨g, cs, e, hg, hk, hz, hc⟩ := h
  refine ⟨_, _, e, fun i hi => ⟨g, 0, rfl, hk.lt, ?_, ?_, ?_, ?_, ?_⟩⟩
  · rw [Nat.zero_add, hk.cell]; exact (hc i hi).c0
  · rw [Nat.zero_add, hk.cell]; exact (hc i hi).c1
  · rw [Nat.zero_add, hk.cell]; exact (hc i hi).c2
  · rw [Nat.zero_add, hk.cell]; exact (hc i hi).c3
  · rw [Nat.zero_add, hk.cell]; exact (hc i hi).c4
structure Arr4 (w : World) (B : Nat) (cs : Array Value) (o : Nat) (vi vp : Value) (p : Sr) : Prop where
  c0 : cs[o]? = some (.int .i64 p.wd)
  c1 : cs[o + 1]? = some (.int .i64 p.room)
  c2 : cs[o + 2]? = some vi
  c3 : cs[o + 3]? = some vp
  oi : OwnI w B vi p.its
  op : w.ownsRow B 9 1 vp p.ts.length (p.ts.map Value.string)
theorem OwnI.kept {w w' : World} {base k : Nat} {v : Value} {its : Itms} (h : OwnI w base v its) (hg : w.grownBy w' (some k)) (hk : k < base) : OwnI w' base v its := by
  obtain ⟨g, e, hb, hB⟩ := h
  exact ⟨g, e, hb, hB.kept hg (fun e => by have := Option.some.inj e; omega)⟩
theorem Arr4.below {w w' : World} {B : Nat} {cs : Array Value} {o : Nat} {vi vp : Value} {p : Sr} (h : Arr4 w B cs o vi vp p) (hb : Below w.heap.size w w') : Arr4 w' B cs o vi vp p := ⟨h.c0, h.c1, h.c2, h.c3, h.oi.below hb, Below.row hb h.op⟩
theorem Arr4.kept {w w' : World} {B k : Nat} {cs : Array Value} {o : Nat} {vi vp : Value} {p : Sr} (h : Arr4 w B cs o vi vp p) (hg : w.grownBy w' (some k)) (hk : k < B) : Arr4 w' B cs o vi vp p := ⟨h.c0, h.c1, h.c2, h.c3, h.oi.kept hg hk, row_kept h.op hg hk⟩
/-- A row of stores of its own. -/
def OwnS (w : World) (base : Nat) (v : Value) (ss : Srs) : Prop :=
  ∃ g cs, v = .slice (some ⟨g, 0, none⟩) ss.length ss.length ∧ base ≤ g ∧ Blk w g 34 cs ∧ cs.size = ss.length * 4 ∧ ∀ j, j < ss.length → ∃ vi vp, Arr4 w (g + 1) cs (j * 4) vi vp (sat ss j)
theorem OwnS.below {w w' : World} {base : Nat} {v : Value} {ss : Srs} (h : OwnS w base v ss) (hb : Below w.heap.size w w') : OwnS w' base v ss := by
  obtain ⟨g, cs, e, hg, hk, hz, hc⟩ := h
  refine ⟨g, cs, e, hg, hk.below hb, hz, fun j hj => ?_⟩
  obtain ⟨vi, vp, h4⟩ := hc j hj
  exact ⟨vi, vp, h4.below hb⟩
theorem OwnS.kept {w w' : World} {base k : Nat} {v : Value} {ss : Srs} (h : OwnS w base v ss) (hg : w.grownBy w' (some k)) (hk : k < base) : OwnS w' base v ss := by
  obtain ⟨g, cs, e, hb, hB, hz, hc⟩ := h
  refine ⟨g, cs, e, hb, hB.kept hg (fun e => by have := Option.some.inj e; omega), hz, fun j hj => ?_⟩
  obtain ⟨vi, vp, h4⟩ := hc j hj
  exact ⟨vi, vp, h4.kept hg (by omega)⟩
theorem OwnS.rds {w : World} {base : Nat} {v : Value} {ss : Srs} (h : OwnS w base v ss) : RdS w v ss := by
  obtain ⟨g, cs, e, hg, hk, hz, hc⟩ := h
  refine ⟨_, _, e, fun i hi => ?_⟩
  obtain ⟨vi, vp, h4⟩ := hc i hi
  refine ⟨g, 0, vi, vp, rfl, hk.lt, ?_, ?_, ?_, ?_, h4.oi.rdi, Reads.of_row h4.op⟩
  · rw [Nat.zero_add, hk.cell]; exact h4.c0
  · rw [Nat.zero_add, hk.cell]; exact h4.c1
  · rw [Nat.zero_add, hk.cell]; exact h4.c2
  · rw [Nat.zero_add, hk.cell]; exact h4.c3
theorem arr5 (cs : Array Value) (o : Nat) (d0 d1 d2 d3 d4 : Value) (h : o + 5 ≤ cs.size) (j : Nat) : (((((cs.setIfInBounds (o) d0).setIfInBounds (o + 1) d1).setIfInBounds (o + 2) d2).setIfInBounds (o + 3) d3).setIfInBounds (o + 4) d4)[j]? = (if o + 4 = j then some d4 else (if o + 3 = j then some d3 else (if o + 2 = j then some d2 else (if o + 1 = j then some d1 else (if o = j then some d0 else cs[j]?))))) := by
  simp only [Array.getElem?_setIfInBounds, Array.size_setIfInBounds, show o < cs.size from by omega, show o + 1 < cs.size from by omega, show o + 2 < cs.size from by omega, show o + 3 < cs.size from by omega, show o + 4 < cs.size from by omega, if_true]
theorem arr4 (cs : Array Value) (o : Nat) (d0 d1 d2 d3 : Value) (h : o + 4 ≤ cs.size) (j : Nat) : ((((cs.setIfInBounds (o) d0).setIfInBounds (o + 1) d1).setIfInBounds (o + 2) d2).setIfInBounds (o + 3) d3)[j]? = (if o + 3 = j then some d3 else (if o + 2 = j then some d2 else (if o + 1 = j then some d1 else (if o = j then some d0 else cs[j]?)))) := by
  simp only [Array.getElem?_setIfInBounds, Array.size_setIfInBounds, show o < cs.size from by omega, show o + 1 < cs.size from by omega, show o + 2 < cs.size from by omega, show o + 3 < cs.size from by omega, if_true]
set_option maxRecDepth 100000 in
set_option maxHeartbeats 2000000 in
theorem toStoreS_any (v : Value) (ss : Srs) (w : World) (hv : RdS w v ss) (hl : ss.length ≤ 1048576) (hf : SsFit 1048576 ss) :
    Calls Tryz.prog 8 #[v] w fun e w' => ∃ v', e = .returned v' ∧ OwnS w' w.heap.size v' ss ∧ Below w.heap.size w w' := by
  obtain ⟨i0, hi, hz0, hz1, hz2⟩ := info_parts Tryz.infoStore
  obtain ⟨a, ca, rfl, hca⟩ := hv
  have HC := hid hca
  obtain ⟨M, hM⟩ : ∃ M, M = madeCells (Value.agg #[.int .i64 0, .int .i64 0, .slice none 0 0, .slice none 0 0]).cells (((ss.length : Nat) : Int).toNat * i0.size) := ⟨_, rfl⟩
  have hMs : M.size = ss.length * 4 := by rw [hM, size_madeCells, hz1]; simp
  have hmk : ∀ W : World, (Instr.makeSlice 39 (.int .i64 (ss.length : Int)) (.int .i64 (ss.length : Int))).run Tryz.prog W = .ok (.slice (some ⟨W.heap.size, 0, none⟩) ss.length ss.length) (W.alloc (.cells M 34)) := fun W => by
    have h := run_make (P := Tryz.prog) W 39 34 i0 (.agg #[.int .i64 0, .int .i64 0, .slice none 0 0, .slice none 0 0]) Tryz.underlying39 hi hz0 .i64 .i64 (ss.length : Int) (ss.length : Int) (by omega) (by omega) (by rw [hz2]; omega) (by omega)
    rw [← hM] at h
    simpa using h
  clear hM hca
  have HO := hid (Blk.new w 34 M)
  have HMS := hid hMs
  have HF := hid hf
  clear hf
  go_enter Tryz.func8, Tryz.ntmps8
  go_wp2
  go_loopw [4] (fun i' wr => ∃ (i : Nat) (cs : Array Value), i ≤ ss.length ∧ i' = .int .i64 i ∧ Blk wr w.heap.size 34 cs ∧ cs.size = ss.length * 4 ∧ (∀ j, j < i → ∃ vi vp, Arr4 wr (w.heap.size + 1) cs (j * 4) vi vp (sat ss j)) ∧ Below w.heap.size w wr ∧ w.heap.size + 1 ≤ wr.heap.size) (fun i' _ => ss.length - (intOf i').toNat)
  case atStart => exact ⟨0, M, Nat.zero_le _, rfl, HO.out, HMS.out, fun j hj => absurd hj (by omega), (Below.refl _ _).alloc (Nat.le_refl _) _, by simp⟩
  case round =>
    obtain ⟨i, cs, hil, rfl, hr, hcs, hdone, hb, hsz⟩ := hrel
    by_cases hlt : i < ss.length
    · obtain ⟨b, o, vi, vp, rfl, h4⟩ := HC.out i hlt
      have g4 := h4.below hb
      have hfi := HF.out i hlt
      have hg : ∀ j, j < 4 → ∃ x, cs[i * 4 + j]? = some x := fun j hj => ⟨_, Array.getElem?_eq_getElem (by omega)⟩
      obtain ⟨z0, k0⟩ := hg 0 (by omega)
      obtain ⟨z1, k1⟩ := hg 1 (by omega)
      obtain ⟨z2, k2⟩ := hg 2 (by omega)
      obtain ⟨z3, k3⟩ := hg 3 (by omega)
      rw [Nat.add_zero] at k0
      have HTS := hid fun W h k => toStore_any (sat ss i).wd (sat ss i).room vi vp (sat ss i).its (sat ss i).ts W h k hfi.its hfi.ts
      have HD : Hid (∀ (W W' : World) (vi' vp' : Value) (cs' : Array Value), Below wr.heap.size wr W → W.grownBy W' (some w.heap.size) → OwnI W' (w.heap.size + 1) vi' (sat ss i).its → W'.ownsRow (w.heap.size + 1) 9 1 vp' (sat ss i).ts.length ((sat ss i).ts.map Value.string) → (∀ j, cs'[j]? = (if i * 4 + 3 = j then some vp' else (if i * 4 + 2 = j then some vi' else (if i * 4 + 1 = j then some (.int .i64 (sat ss i).room) else (if i * 4 = j then some (.int .i64 (sat ss i).wd) else cs[j]?))))) → ∀ j, j < i + 1 → ∃ vi vp, Arr4 W' (w.heap.size + 1) cs' (j * 4) vi vp (sat ss j)) := fun W W' vi' vp' cs' hW hG oi op hc' j hj => by
        by_cases e : j = i
        · subst e
          refine ⟨vi', vp', ?_, ?_, ?_, ?_, oi, op⟩ <;> rw [hc'] <;> simp
        · obtain ⟨vj, vq, h4⟩ := hdone j (by omega)
          obtain ⟨a0, a1, a2, a3, a4, a5⟩ := (h4.below hW).kept hG (Nat.lt_succ_self _)
          refine ⟨vj, vq, ?_, ?_, ?_, ?_, a4, a5⟩ <;> rw [hc', if_neg (by omega), if_neg (by omega), if_neg (by omega), if_neg (by omega)] <;> assumption
      generalize sat ss i = p at g4 HD HTS
      obtain ⟨pw, pr, pi, pt⟩ := p
      obtain ⟨x0, x1, x2, x3, x4, x5, x6⟩ := g4
      dsimp only at x1 x2 x3 x4 x5 x6 HD HTS
      obtain ⟨a3, c3, hvi, _⟩ := id x5
      obtain ⟨a5, c5, hvp, _⟩ := x6.form
      subst hvi hvp
      have HT1 := hid (HTS.out wr x5 x6)
      have HR := hid hr
      have HB := hid hb
      have HCS := hid hcs
      have HK := hid (show cs[i * 4]? = some z0 ∧ cs[i * 4 + 1]? = some z1 ∧ cs[i * 4 + 2]? = some z2 ∧ cs[i * 4 + 3]? = some z3 from ⟨k0, k1, k2, k3⟩)
      clear h4 hr hb hdone hg k0 k1 k2 k3 x0 x5 x6 HTS hfi hcs
      go_wp2_with fail
      refine HT1.out.mono ?_
      rintro e w1 ⟨vi1, vp1, rfl, oi1, op1, hb1⟩
      obtain ⟨gi, hvi1, hgi, hBi⟩ := id oi1
      obtain ⟨a1, d1, hvp1, _⟩ := row_form op1
      obtain ⟨g1, c1, hv1⟩ : ∃ g1 c1, vi1 = .slice g1 pi.length c1 := ⟨_, _, hvi1⟩
      clear hvi1 hBi
      subst hv1 hvp1
      have R0 := HR.out.below hb1
      have B1 := HB.out.trans (hb1.mono HB.out.size)
      obtain ⟨k0, k1, k2, k3⟩ := HK.out
      have e0 : w1.cell? ⟨w.heap.size, i * 4, none⟩ = some z0 := (R0.cell (i * 4)).trans (k0)
      have f0 := R0.fz (i * 4)
      have R1 := R0.set (i * 4) (.int .i64 pw)
      have e1 : (w1.setCell ⟨w.heap.size, i * 4, none⟩ (.int .i64 pw)).cell? ⟨w.heap.size, i * 4 + 1, none⟩ = some z1 := (R1.cell (i * 4 + 1)).trans (by rw [Array.getElem?_setIfInBounds_ne (by omega)]; exact k1)
      have f1 := R1.fz (i * 4 + 1)
      have R2 := R1.set (i * 4 + 1) (.int .i64 pr)
      have e2 : ((w1.setCell ⟨w.heap.size, i * 4, none⟩ (.int .i64 pw)).setCell ⟨w.heap.size, i * 4 + 1, none⟩ (.int .i64 pr)).cell? ⟨w.heap.size, i * 4 + 2, none⟩ = some z2 := (R2.cell (i * 4 + 2)).trans (by rw [Array.getElem?_setIfInBounds_ne (by omega), Array.getElem?_setIfInBounds_ne (by omega)]; exact k2)
      have f2 := R2.fz (i * 4 + 2)
      have R3 := R2.set (i * 4 + 2) (.slice g1 pi.length c1)
      have e3 : (((w1.setCell ⟨w.heap.size, i * 4, none⟩ (.int .i64 pw)).setCell ⟨w.heap.size, i * 4 + 1, none⟩ (.int .i64 pr)).setCell ⟨w.heap.size, i * 4 + 2, none⟩ (.slice g1 pi.length c1)).cell? ⟨w.heap.size, i * 4 + 3, none⟩ = some z3 := (R3.cell (i * 4 + 3)).trans (by rw [Array.getElem?_setIfInBounds_ne (by omega), Array.getElem?_setIfInBounds_ne (by omega), Array.getElem?_setIfInBounds_ne (by omega)]; exact k3)
      have f3 := R3.fz (i * 4 + 3)
      have R4 := R3.set (i * 4 + 3) (.slice a1 pt.length d1)
      have G := (grown_same (grown_same (grown_same (grownBy_setCellAt w1 w.heap.size (i * 4) (.int .i64 pw)) (grownBy_setCellAt _ w.heap.size (i * 4 + 1) (.int .i64 pr))) (grownBy_setCellAt _ w.heap.size (i * 4 + 2) (.slice g1 pi.length c1))) (grownBy_setCellAt _ w.heap.size (i * 4 + 3) (.slice a1 pt.length d1)))
      have HR4 := hid R4
      have HB4 := hid (B1.grown G (Nat.le_trans (Nat.le_refl _) B1.size) (fun g e => by cases e; exact Nat.le_refl _))
      have HA := hid (arr4 cs (i * 4) (.int .i64 pw) (.int .i64 pr) (.slice g1 pi.length c1) (.slice a1 pt.length d1) (by have := HCS.out; omega))
      have HDD := hid (HD.out _ _ _ _ _ hb1 G ((oi1.base (by omega)).kept G (Nat.lt_succ_self _)) (row_kept (ownsRow_base op1 (by omega)) G (Nat.lt_succ_self _)) HA.out)
      have hsg := Nat.le_trans hb1.size G.size
      clear R0 R1 R2 R3 R4 G B1 hb1 k0 k1 k2 k3 oi1 op1 hgi
      go_wp2
      exact ⟨⟨i + 1, ((((cs.setIfInBounds (i * 4) (.int .i64 pw)).setIfInBounds (i * 4 + 1) (.int .i64 pr)).setIfInBounds (i * 4 + 2) (.slice g1 pi.length c1)).setIfInBounds (i * 4 + 3) (.slice a1 pt.length d1)), by omega, by go_num, HR4.out, by simp only [Array.size_setIfInBounds]; exact HCS.out, HDD.out, HB4.out, Nat.le_trans hsz hsg⟩, by simp [intOf]; omega⟩
    · obtain rfl : i = ss.length := by omega
      have HR := hid hr
      have HB := hid hb
      have HD := hid hdone
      clear hr hb hdone
      go_wp2
      go_ret
      exact ⟨_, rfl, ⟨_, cs, rfl, Nat.le_refl _, HR.out, hcs, HD.out⟩, HB.out⟩
end Go.Proofs.YtlnkhbnbcmllaaaGreat
