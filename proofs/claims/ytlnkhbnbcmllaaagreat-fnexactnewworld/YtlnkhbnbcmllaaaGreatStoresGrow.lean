import Derived.Test.YtlnkhbnbcmllaaaGreatStoresMark
import Derived.Test.YtlnkhbnbcmllaaaGreatWorldTo
import Derived.Test.YtlnkhbnbcmllaaaGreatShort
/- laws.toStoreS: stores in rows of their own, all apart. -/
namespace Go.Proofs.YtlnkhbnbcmllaaaGreat
open Go.RowKit
theorem cellsT_ext (l : List Value) (ss : SV) (hl : l.length = ss.length * 4) (h : ∀ j, j < ss.length → T4 l (j * 4) (stp ss j) (sti ss j) (stq ss j)) : l = cellsT ss := by
  apply List.ext_getElem?
  intro i
  by_cases hi : i < ss.length * 4
  · have a := h (i / 4) (by omega)
    have b := cellsT_at ss (i / 4) (by omega)
    obtain e | e | e | e : i = i / 4 * 4 ∨ i = i / 4 * 4 + 1 ∨ i = i / 4 * 4 + 2 ∨ i = i / 4 * 4 + 3 := by omega
    · rw [e, a.c0, b.c0]
    · rw [e, a.c1, b.c1]
    · rw [e, a.c2, b.c2]
    · rw [e, a.c3, b.c3]
  · rw [List.getElem?_eq_none (by omega), List.getElem?_eq_none (by rw [cellsT_len]; omega)]
theorem stp_snoc (ss : SV) (q : Sr × Value × Value) (j : Nat) (h : j < ss.length) : stp (ss ++ [q]) j = stp ss j ∧ sti (ss ++ [q]) j = sti ss j ∧ stq (ss ++ [q]) j = stq ss j := by
  simp [stp, sti, stq, List.getElem?_append_left h]
theorem stp_last (ss : SV) (q : Sr × Value × Value) : stp (ss ++ [q]) ss.length = q.1 ∧ sti (ss ++ [q]) ss.length = q.2.1 ∧ stq (ss ++ [q]) ss.length = q.2.2 := by
  simp [stp, sti, stq]
/-- Stores that are being laid: their rows, apart; the cells that tell of them. -/
structure Laying (w : World) (B : Nat) (cs : Array Value) (ss : SV) (os : Srs) : Prop where
  same : ∀ j, j < ss.length → stp ss j = sat os j
  cells : ∀ j, j < ss.length → T4 cs.toList (j * 4) (stp ss j) (sti ss j) (stq ss j)
  each : ∀ j, j < ss.length → StoreOwn w B (sti ss j) (stq ss j) (stp ss j).its (stp ss j).ts
  apartI : ∀ i j, i < ss.length → j < ss.length → i ≠ j → ∀ g, (sti ss i).ownBlock = some g → (sti ss j).ownBlock ≠ some g
  apartP : ∀ i j, i < ss.length → j < ss.length → i ≠ j → ∀ g, (stq ss i).ownBlock = some g → (stq ss j).ownBlock ≠ some g
theorem Laying.empty (w : World) (B : Nat) (cs : Array Value) (os : Srs) : Laying w B cs [] os := ⟨fun j h => absurd h (by simp), fun j h => absurd h (by simp), fun j h => absurd h (by simp), fun j _ h => absurd h (by simp), fun j _ h => absurd h (by simp)⟩
theorem Laying.step {w W W' : World} {B : Nat} {cs cs' : Array Value} {ss : SV} {os : Srs} {vi vp : Value} (h : Laying w B cs ss os) (hb : Below w.heap.size w W) (hG : ∀ b, B ≤ b → b < W.heap.size → W'.heap[b]? = W.heap[b]?)
    (ho : StoreOwn W w.heap.size vi vp (sat os ss.length).its (sat os ss.length).ts) (hB : B ≤ w.heap.size)
    (hc : ∀ j, cs'[j]? = (if ss.length * 4 + 3 = j then some vp else (if ss.length * 4 + 2 = j then some vi else (if ss.length * 4 + 1 = j then some (.int .i64 (sat os ss.length).room) else (if ss.length * 4 = j then some (.int .i64 (sat os ss.length).wd) else cs[j]?))))) :
    Laying W' B cs' (ss ++ [(sat os ss.length, vi, vp)]) os := by
  have old : ∀ {x : SV}, x = ss ++ [(sat os ss.length, vi, vp)] → ∀ j, j < x.length → j < ss.length ∨ j = ss.length := fun e j hj => by rw [e] at hj; simp at hj; omega
  have hl := stp_last ss (sat os ss.length, vi, vp)
  have low : ∀ j, j < ss.length → ∀ g, (sti ss j).ownBlock = some g ∨ (stq ss j).ownBlock = some g → g < w.heap.size := fun j hj g hg => by
    rcases hg with hg | hg
    · exact ((h.each j hj).items.lt g hg).2
    · exact ((h.each j hj).pins.lt g hg).2
  refine ⟨fun j hj => ?_, fun j hj => ?_, fun j hj => ?_, fun i j hi hj hij g hg => ?_, fun i j hi hj hij g hg => ?_⟩
  · rcases old rfl j hj with h1 | rfl
    · rw [(stp_snoc ss _ j h1).1]; exact h.same j h1
    · exact hl.1
  · rcases old rfl j hj with h1 | rfl
    · obtain ⟨e1, e2, e3⟩ := stp_snoc ss (sat os ss.length, vi, vp) j h1
      obtain ⟨a0, a1, a2, a3⟩ := h.cells j h1
      rw [e1, e2, e3]
      simp only [Array.getElem?_toList] at a0 a1 a2 a3
      refine ⟨?_, ?_, ?_, ?_⟩ <;> rw [Array.getElem?_toList, hc, if_neg (by omega), if_neg (by omega), if_neg (by omega), if_neg (by omega)] <;> assumption
    · rw [hl.1, hl.2.1, hl.2.2]
      refine ⟨?_, ?_, ?_, ?_⟩ <;> rw [Array.getElem?_toList, hc] <;> simp
  · rcases old rfl j hj with h1 | rfl
    · obtain ⟨e1, e2, e3⟩ := stp_snoc ss (sat os ss.length, vi, vp) j h1
      rw [e1, e2, e3]
      have k := (h.each j h1).below hb
      exact k.same (fun g e => hG g (k.items.lt g e).1 (k.items.lt g e).2) (fun g e => hG g (k.pins.lt g e).1 (k.pins.lt g e).2)
    · rw [hl.1, hl.2.1, hl.2.2]
      have k := ho.base hB
      exact k.same (fun g e => hG g (k.items.lt g e).1 (k.items.lt g e).2) (fun g e => hG g (k.pins.lt g e).1 (k.pins.lt g e).2)
  · rcases old rfl i hi with h1 | rfl <;> rcases old rfl j hj with h2 | rfl
    · rw [(stp_snoc ss _ i h1).2.1] at hg
      rw [(stp_snoc ss _ j h2).2.1]
      exact h.apartI i j h1 h2 hij g hg
    · rw [(stp_snoc ss _ i h1).2.1] at hg
      rw [hl.2.1]
      intro e
      have := low i h1 g (.inl hg)
      have := (ho.items.lt g e).1
      omega
    · rw [hl.2.1] at hg
      rw [(stp_snoc ss _ j h2).2.1]
      intro e
      have := low j h2 g (.inl e)
      have := (ho.items.lt g hg).1
      omega
    · exact absurd rfl hij
  · rcases old rfl i hi with h1 | rfl <;> rcases old rfl j hj with h2 | rfl
    · rw [(stp_snoc ss _ i h1).2.2] at hg
      rw [(stp_snoc ss _ j h2).2.2]
      exact h.apartP i j h1 h2 hij g hg
    · rw [(stp_snoc ss _ i h1).2.2] at hg
      rw [hl.2.2]
      intro e
      have := low i h1 g (.inr hg)
      have := (ho.pins.lt g e).1
      omega
    · rw [hl.2.2] at hg
      rw [(stp_snoc ss _ j h2).2.2]
      intro e
      have := low j h2 g (.inr e)
      have := (ho.pins.lt g hg).1
      omega
    · exact absurd rfl hij
theorem Laying.own {w : World} {B g : Nat} {cs : Array Value} {ss : SV} {os : Srs} (h : Laying w (g + 1) cs ss os) (hl : ss.length = os.length) (hb : Blk w g 34 cs) (hz : cs.size = os.length * 4) (hB : B ≤ g) (hm : os.length ≤ 1048576) : StoresOwn w B (.slice (some ⟨g, 0, none⟩) os.length os.length) ss ∧ ss.map Prod.fst = os := by
  have e : cs.toList = cellsT ss := cellsT_ext _ ss (by rw [Array.length_toList]; omega) h.cells
  constructor
  · refine ⟨?_, fun i hi => (h.each i hi).base (by omega), h.apartI, h.apartP⟩
    rw [hl]
    exact ⟨by rw [cellsT_len, hl], .inr ⟨g, os.length, cs, rfl, hB, hb, Nat.le_refl _, by unfold maxLen; omega, hz, by rw [← e, List.take_of_length_le (by rw [Array.length_toList]; omega)]⟩⟩
  · apply List.ext_getElem?
    intro i
    by_cases hi : i < ss.length
    · have := h.same i hi
      simp only [stp, sat, List.getD_eq_getElem?_getD, List.getElem?_eq_getElem hi, List.getElem?_eq_getElem (show i < os.length by omega), Option.getD_some] at this
      rw [List.getElem?_map, List.getElem?_eq_getElem hi, List.getElem?_eq_getElem (by omega), Option.map_some, this]
    · rw [List.getElem?_eq_none (by rw [List.length_map]; omega), List.getElem?_eq_none (by omega)]
set_option maxRecDepth 100000 in
set_option maxHeartbeats 4000000 in
theorem toStoreS2_any (v : Value) (ss : Srs) (w : World) (hv : RdS w v ss) (hl : ss.length ≤ 1048576) (hf : SsFit 1048576 ss) :
    Calls Tryz.prog 8 #[v] w fun e w' => ∃ v' qs, e = .returned v' ∧ qs.map Prod.fst = ss ∧ StoresOwn w' w.heap.size v' qs ∧ Below w.heap.size w w' := by
  obtain ⟨i0, hi, hz0, hz1, hz2⟩ := info_parts Tryz.infoStore
  obtain ⟨a, ca, rfl, hca⟩ := hv
  have HC := hid hca
  obtain ⟨M, hM⟩ : ∃ M, M = madeCells (Value.agg #[.int .i64 0, .int .i64 0, .slice none 0 0, .slice none 0 0]).cells (((ss.length : Nat) : Int).toNat * i0.size) := ⟨_, rfl⟩
  have hMs : M.size = ss.length * 4 := by rw [hM, size_madeCells, hz1]; simp
  have hmk : ∀ W : World, (Instr.makeSlice 39 (.int .i64 (ss.length : Int)) (.int .i64 (ss.length : Int))).run Tryz.prog W = .ok (.slice (some ⟨W.heap.size, 0, none⟩) ss.length ss.length) (W.alloc (.cells M 34)) := fun W => by
    have h := run_make (P := Tryz.prog) W 39 34 i0 (.agg #[.int .i64 0, .int .i64 0, .slice none 0 0, .slice none 0 0]) Tryz.underlying39 hi hz0 .i64 .i64 (ss.length : Int) (ss.length : Int) (by omega) (by omega) (by rw [hz2]; omega) (by omega)
    rw [← hM] at h
    simpa using h
  clear hM hca
  have HO := hid (Blk.new w 34 M)
  have HMS := hid hMs
  have HF := hid hf
  clear hf hMs
  go_enter Tryz.func8, Tryz.ntmps8
  go_wp2
  go_loopw [4] (fun i' wr => ∃ (i : Nat) (cs : Array Value) (qs : SV), i ≤ ss.length ∧ i' = .int .i64 i ∧ i ≤ qs.length ∧ qs.length ≤ i ∧ Blk wr w.heap.size 34 cs ∧ Hid (cs.size = ss.length * 4) ∧ Laying wr (w.heap.size + 1) cs qs ss ∧ Below w.heap.size w wr ∧ w.heap.size + 1 ≤ wr.heap.size) (fun i' _ => ss.length - (intOf i').toNat)
  case atStart => exact ⟨0, M, [], Nat.zero_le _, rfl, Nat.zero_le _, Nat.le_refl _, HO.out, HMS.out, Laying.empty _ _ _ _, (Below.refl _ _).alloc (Nat.le_refl _) _, by simp⟩
  case round =>
    obtain ⟨i, cs, qs, hil, rfl, hq1, hq2, hr, hcs, hlay, hb, hsz⟩ := hrel
    have HQ : Hid (qs.length = i) := by show _ = _; omega
    by_cases hlt : i < ss.length
    · obtain ⟨b, o, vi, vp, rfl, h4⟩ := HC.out i hlt
      have g4 := h4.below hb
      have hfi := HF.out i hlt
      have hcz := hcs.out
      have hg : ∀ j, j < 4 → ∃ x, cs[i * 4 + j]? = some x := fun j hj => ⟨_, Array.getElem?_eq_getElem (by omega)⟩
      obtain ⟨z0, k0⟩ := hg 0 (by omega)
      obtain ⟨z1, k1⟩ := hg 1 (by omega)
      obtain ⟨z2, k2⟩ := hg 2 (by omega)
      obtain ⟨z3, k3⟩ := hg 3 (by omega)
      rw [Nat.add_zero] at k0
      have HTS := hid fun W h k => toStore2_any (sat ss i).wd (sat ss i).room vi vp (sat ss i).its (sat ss i).ts W h k hfi.its hfi.ts
      have HFI := hid hfi.its
      have HST : Hid (∀ (W W' : World) (vi' vp' : Value) (cs' : Array Value), Below wr.heap.size wr W → W.grownBy W' (some w.heap.size) → StoreOwn W wr.heap.size vi' vp' (sat ss i).its (sat ss i).ts → (∀ j, cs'[j]? = (if i * 4 + 3 = j then some vp' else (if i * 4 + 2 = j then some vi' else (if i * 4 + 1 = j then some (.int .i64 (sat ss i).room) else (if i * 4 = j then some (.int .i64 (sat ss i).wd) else cs[j]?))))) → Laying W' (w.heap.size + 1) cs' (qs ++ [(sat ss i, vi', vp')]) ss) := fun W W' vi' vp' cs' hW hG ho hc' => by
        have e := HQ.out
        subst e
        exact hlay.step hW (fun b h1 h2 => hG.block b h2 (fun e => by have := Option.some.inj e; omega)) ho hsz hc'
      generalize hp : sat ss i = p at g4 HST HTS HFI
      clear hp
      obtain ⟨pw, pr, pi, pt⟩ := p
      obtain ⟨x0, x1, x2, x3, x4, x5, x6⟩ := g4
      dsimp only at x1 x2 x3 x4 x5 x6 HST HTS HFI
      obtain ⟨a3, c3, hvi, _⟩ := id x5
      obtain ⟨a5, c5, hvp, _⟩ := x6.form
      subst hvi hvp
      have HT1 := hid (HTS.out wr x5 x6)
      have HR := hid hr
      have HB := hid hb
      have HK := hid (show cs[i * 4]? = some z0 ∧ cs[i * 4 + 1]? = some z1 ∧ cs[i * 4 + 2]? = some z2 ∧ cs[i * 4 + 3]? = some z3 from ⟨k0, k1, k2, k3⟩)
      clear h4 hr hb hlay hg k0 k1 k2 k3 x0 x5 x6 HTS hfi hcz
      go_wp2_with fail
      refine HT1.out.mono ?_
      rintro e w1 ⟨vi1, vp1, rfl, oi1, op1, hap1, hb1⟩
      have so1 : StoreOwn w1 wr.heap.size vi1 vp1 pi pt := ⟨oi1.row HFI.out, op1, hap1⟩
      obtain ⟨g1, c1, rfl⟩ := row_any so1.items
      obtain ⟨a1, d1, rfl⟩ := row_any so1.pins
      have R0 := HR.out.below hb1
      have B1 := HB.out.trans (hb1.mono HB.out.size)
      obtain ⟨k0, k1, k2, k3⟩ := HK.out
      have e0 : w1.cell? ⟨w.heap.size, i * 4, none⟩ = some z0 := (R0.cell (i * 4)).trans (k0)
      have f0 := R0.fz (i * 4)
      have R1 := R0.set (i * 4) (.int .i64 pw)
      have e1 : (w1.setCell ⟨w.heap.size, i * 4, none⟩ (.int .i64 pw)).cell? ⟨w.heap.size, i * 4 + 1, none⟩ = some z1 := (R1.cell (i * 4 + 1)).trans (by rw [Array.getElem?_setIfInBounds_ne (by omega)]; exact k1)
      have f1 := R1.fz (i * 4 + 1)
      have R2 := R1.set (i * 4 + 1) (.int .i64 pr)
      have e2 : ((w1.setCell ⟨w.heap.size, i * 4, none⟩ (.int .i64 pw)).setCell ⟨w.heap.size, i * 4 + 1, none⟩ (.int .i64 pr)).cell? ⟨w.heap.size, i * 4 + 2, none⟩ = some z2 := (R2.cell (i * 4 + 2)).trans (by rw [Array.getElem?_setIfInBounds_ne (by omega), Array.getElem?_setIfInBounds_ne (by omega)]; exact k2)
      have f2 := R2.fz (i * 4 + 2)
      have R3 := R2.set (i * 4 + 2) (.slice g1 pi.length c1)
      have e3 : (((w1.setCell ⟨w.heap.size, i * 4, none⟩ (.int .i64 pw)).setCell ⟨w.heap.size, i * 4 + 1, none⟩ (.int .i64 pr)).setCell ⟨w.heap.size, i * 4 + 2, none⟩ (.slice g1 pi.length c1)).cell? ⟨w.heap.size, i * 4 + 3, none⟩ = some z3 := (R3.cell (i * 4 + 3)).trans (by rw [Array.getElem?_setIfInBounds_ne (by omega), Array.getElem?_setIfInBounds_ne (by omega), Array.getElem?_setIfInBounds_ne (by omega)]; exact k3)
      have f3 := R3.fz (i * 4 + 3)
      have R4 := R3.set (i * 4 + 3) (.slice a1 pt.length d1)
      have G := (grown_same (grown_same (grown_same (grownBy_setCellAt w1 w.heap.size (i * 4) (.int .i64 pw)) (grownBy_setCellAt _ w.heap.size (i * 4 + 1) (.int .i64 pr))) (grownBy_setCellAt _ w.heap.size (i * 4 + 2) (.slice g1 pi.length c1))) (grownBy_setCellAt _ w.heap.size (i * 4 + 3) (.slice a1 pt.length d1)))
      have HR4 := hid R4
      have HB4 := hid (B1.grown G (Nat.le_trans (Nat.le_refl _) B1.size) (fun g e => by cases e; exact Nat.le_refl _))
      have HA := hid (arr4 cs (i * 4) (.int .i64 pw) (.int .i64 pr) (.slice g1 pi.length c1) (.slice a1 pt.length d1) (by have := hcs.out; omega))
      have HDD := hid (HST.out _ _ _ _ _ hb1 G so1 HA.out)
      have hsg := Nat.le_trans hb1.size G.size
      clear R0 R1 R2 R3 R4 G B1 hb1 k0 k1 k2 k3 oi1 op1 hap1 so1
      go_wp2
      exact ⟨⟨i + 1, ((((cs.setIfInBounds (i * 4) (.int .i64 pw)).setIfInBounds (i * 4 + 1) (.int .i64 pr)).setIfInBounds (i * 4 + 2) (.slice g1 pi.length c1)).setIfInBounds (i * 4 + 3) (.slice a1 pt.length d1)), _, by omega, by go_num, by simp; omega, by simp; omega, HR4.out, by show _ = _; simp only [Array.size_setIfInBounds]; exact hcs.out, HDD.out, HB4.out, Nat.le_trans hsz hsg⟩, by simp [intOf]; omega⟩
    · obtain rfl : i = ss.length := by omega
      obtain ⟨o1, o2⟩ := hlay.own HQ.out hr hcs.out (Nat.le_refl _) hl
      have HS := hid o1
      have HE := hid o2
      have HB := hid hb
      clear hr hb hlay o1 o2
      go_wp2
      go_ret
      exact ⟨_, qs, rfl, HE.out, HS.out, HB.out⟩
end Go.Proofs.YtlnkhbnbcmllaaaGreat
/- One store more at the end of an own row of stores; one boolean more. -/
namespace Go.Proofs.YtlnkhbnbcmllaaaGreat
open Go.RowKit
theorem cellsT_snoc (ss : SV) (p : Sr) (vi vp : Value) : cellsT (ss ++ [(p, vi, vp)]) = cellsT ss ++ [.int .i64 p.wd, .int .i64 p.room, vi, vp] := by
  unfold cellsT; rw [List.flatMap_append]; rfl
theorem row_stays {w w' : World} {B B' s s' n n' : Nat} {e e' : TypeId} {v v' : Value} {xs xs' : List Value} (h : w.ownsRow B e s v n xs) (k : w.ownsRow B' e' s' v' n' xs') (hne : e ≠ e') (hg : w.grownBy w' v'.ownBlock) : w'.ownsRow B e s v n xs := by
  refine h.kept hg ?_
  cases hv : v.ownBlock with
  | none => exact .inl rfl
  | some b => exact .inr fun e => row_other h k hne hv e.symm
theorem StoreOwn.stays {w w' : World} {B B' n s : Nat} {e : TypeId} {vi vp v : Value} {its : Itms} {ts : List ByteArray} {xs : List Value} (h : StoreOwn w B vi vp its ts) (k : w.ownsRow B' e s v n xs) (h1 : 84 ≠ e) (h2 : 9 ≠ e) (hg : w.grownBy w' v.ownBlock) : StoreOwn w' B vi vp its ts :=
  ⟨row_stays h.items k h1 hg, row_stays h.pins k h2 hg, h.apart⟩
theorem StoresOwn.snoc {w0 w6 : World} {B : Nat} {v v' vi vp : Value} {ss : SV} {p : Sr} (h : StoresOwn w0 B v ss) (hg : w0.grownBy w6 v.ownBlock) (hrow : w6.ownsRow B 34 4 v' (ss.length + 1) (cellsT ss ++ [.int .i64 p.wd, .int .i64 p.room, vi, vp])) (hu : StoreOwn w0 B vi vp p.its p.ts)
    (hi : ∀ i, i < ss.length → ∀ g, (sti ss i).ownBlock = some g → vi.ownBlock ≠ some g) (hp : ∀ i, i < ss.length → ∀ g, (stq ss i).ownBlock = some g → vp.ownBlock ≠ some g) : StoresOwn w6 B v' (ss ++ [(p, vi, vp)]) := by
  have old : ∀ j, j < (ss ++ [(p, vi, vp)]).length → j < ss.length ∨ j = ss.length := fun j hj => by simp at hj; omega
  have hl := stp_last ss (p, vi, vp)
  refine ⟨by rw [cellsT_snoc, List.length_append]; exact hrow, fun j hj => ?_, fun i j hi' hj' hij g hg' => ?_, fun i j hi' hj' hij g hg' => ?_⟩
  · rcases old j hj with h1 | rfl
    · obtain ⟨e1, e2, e3⟩ := stp_snoc ss (p, vi, vp) j h1
      rw [e1, e2, e3]
      exact (h.each j h1).stays h.row (by decide) (by decide) hg
    · rw [hl.1, hl.2.1, hl.2.2]
      exact hu.stays h.row (by decide) (by decide) hg
  · rcases old i hi' with h1 | rfl <;> rcases old j hj' with h2 | rfl
    · rw [(stp_snoc ss _ i h1).2.1] at hg'
      rw [(stp_snoc ss _ j h2).2.1]
      exact h.apartI i j h1 h2 hij g hg'
    · rw [(stp_snoc ss _ i h1).2.1] at hg'
      rw [hl.2.1]
      exact hi i h1 g hg'
    · rw [hl.2.1] at hg'
      rw [(stp_snoc ss _ j h2).2.1]
      exact fun e => hi j h2 g e hg'
    · exact absurd rfl hij
  · rcases old i hi' with h1 | rfl <;> rcases old j hj' with h2 | rfl
    · rw [(stp_snoc ss _ i h1).2.2] at hg'
      rw [(stp_snoc ss _ j h2).2.2]
      exact h.apartP i j h1 h2 hij g hg'
    · rw [(stp_snoc ss _ i h1).2.2] at hg'
      rw [hl.2.2]
      exact hp i h1 g hg'
    · rw [hl.2.2] at hg'
      rw [(stp_snoc ss _ j h2).2.2]
      exact fun e => hp j h2 g e hg'
    · exact absurd rfl hij
theorem addr_at (g f j : Nat) : (⟨g, f, none⟩ : Addr).add j = ⟨g, f + j, none⟩ := by simp [Addr.add]
/-- append of one store onto an own row, as a step of a region. -/
theorem wp_append_store {o : Oper} {a : Act} {w : World} {K : Act → World → Prop} {Q : Exit → Act → World → Prop} (s x : Operand)
    (ho : o.op = .call { callee := .builtin .append, args := #[s, x], argTypes := #[39, 39] }) (B : Nat) (v : Value) (n : Nat) (xs : List Value) (hs : a.eval s = v) (hown : w.ownsRow B 34 4 v n xs)
    (b : Nat) (wd room : Int) (vi vp : Value) (hx : a.eval x = .slice (some ⟨b, 0, none⟩) 1 1) (hb : Blk w b 34 #[.int .i64 wd, .int .i64 room, vi, vp]) (h1 : vi.oneCell' = true) (h2 : vp.oneCell' = true) (hlen : n ≤ 1048576) (hB : B ≤ w.heap.size)
    (h : ∀ v' w', w'.ownsRow B 34 4 v' (n + 1) (xs ++ [.int .i64 wd, .int .i64 room, vi, vp]) → w.grownBy w' v.ownBlock → K (a.put o.dst v') w') : o.wp Tryz.prog a w K Q := by
  obtain ⟨i0, hi, hz0, hz1, hz2⟩ := info_parts Tryz.infoStore
  refine wp_append_own w s x 39 ho B 34 i0 (.agg #[.int .i64 0, .int .i64 0, .slice none 0 0, .slice none 0 0]) 4 64 Tryz.underlying39 hi hz0 hz1 hz2 rfl (by decide) v n xs hs hown ⟨b, 0, none⟩ 1 1 [.int .i64 wd, .int .i64 room, vi, vp] hx rfl (fun j y hj => ?_) (fun u hu => by simp only [List.mem_cons, List.not_mem_nil, or_false] at hu; rcases hu with rfl | rfl | rfl | rfl <;> first | rfl | assumption) (by unfold maxLen; omega) (by omega) hB (fun v' w' h1 h2 _ => h v' w' h1 h2)
  rw [addr_at, Nat.zero_add, hb.cell]
  simpa using hj
end Go.Proofs.YtlnkhbnbcmllaaaGreat
