/- laws.FnExactFetchTick, walked. -/
import Derived.Test.YtkghbegdjeehaaaGreatDoorTickSpec
import Derived.Test.YtkghbegdjeehaaaGreatDoorSizeTot
import Derived.Test.YtkghbegdjeehaaaGreatDoorPeersHeld
namespace Go.Proofs.YtkghbegdjeehaaaGreatDoor
open Go.RowKit
theorem But.of_kept {a b : World} {T : Nat → Prop} (h : Kept a b T) : But T a b := ⟨h.os, h.tape, h.output, h.size, h.block⟩
theorem marksQ_qv : ∀ (qs : PV) (k i : Nat), qv (marksQ k qs) i = qv qs i
 | [], _, _ => rfl
 | _ :: _, _, 0 => rfl
 | q :: r, k, i + 1 => by
  have := marksQ_qv r (k + (4 + q.1.nots.length)) i
  simpa [marksQ, qv] using this
/-- The blocks of a fetch are the same when it is marked. -/
theorem marked_blk {vi vp vq : Value} {qs : PV} {k b : Nat} (h : FBlk vi vp vq (marksQ k qs) b) : FBlk vi vp vq qs b := by
 rcases h with h | h | h | ⟨j, hj, h⟩
 ·exact .inl h
 ·exact .inr (.inl h)
 ·exact .inr (.inr (.inl h))
 ·rw [marksQ_len] at hj
  rw [marksQ_qv] at h
  exact .inr (.inr (.inr ⟨j, hj, h⟩))
theorem totP_few : ∀ (ps : Prs), (∀ p ∈ ps, p.nots.length ≤ 376) → totP ps ≤ ps.length * 380
 | [], _ => by simp [totP]
 | p :: r, h => by
  have ih := totP_few r (fun q hq => h q (List.mem_cons_of_mem _ hq))
  have h0 := h p (List.mem_cons_self ..)
  have e : totP (p :: r) = (4 + p.nots.length) + totP r := by simp [totP]
  rw [e, List.length_cons]
  omega
theorem tick_len {nm : ByteArray} {now : Int} {full : Bool} {wd room : Int} {its : Itms} {ts : List ByteArray} {ps : Prs} {n1 : ByteArray} {w1 : Int} {f1 : Bool} {x1 r1 : Int} {i1 : Itms} {t1 : List ByteArray} {p1 : Prs} {o1 : List (Nat × ByteArray)} (h : TickR nm now full wd room its ts ps n1 w1 f1 x1 r1 i1 t1 p1 o1) : i1.length ≤ 1000 ∧ t1.length ≤ 10 ∧ p1.length ≤ 5 ∧ totP p1 ≤ 1900 ∧ PsFit 1048576 p1 ∧ o1.length ≤ 5 := by
 rcases h with ⟨_, rfl, rfl, rfl, rfl, rfl, rfl, rfl, rfl, rfl⟩ | ⟨hv, _, _, _, _, e4, e5, hs⟩
 ·exact ⟨by simp, by simp, by simp, by simp [totP], fun i hi => absurd hi (by simp), by simp⟩
 ·have hf := hs.valid hv
  have hwd8 : 1 ≤ wd ∧ wd ≤ 8 := by have := hf.store.width; simpa [isW] using this
  have hc := hf.count
  have ho := hs.out_len
  have hc0 := hv.count
  have ht := totP_few p1 (fun p hp => by
   obtain ⟨i, hi, rfl⟩ := List.getElem_of_mem hp
   have := (hf.each i hi).many
   rw [show pat p1 i = p1[i] by simp [pat, hi]] at this
   exact this)
  exact ⟨by rw [e4]; exact hf.store.items, by rw [e5]; exact hf.store.pins, hc.2, by omega, fun i hi => fits_of (hf.each i hi) hwd8.2, by omega⟩
set_option maxRecDepth 100000 in
set_option maxHeartbeats 16000000 in
theorem tickLaw_walk (nm : ByteArray) (now : Int) (full : Bool) (wd room : Int) (vi vp vq : Value) (its : Itms) (ts : List ByteArray) (ps : Prs) (w : World) (hi : RdI w vi its) (hp : Reads w vp ts) (hq : RdP w vq ps) (hnm : nm.size ≤ maxLen) (hli : its.length ≤ maxLen) (hlp : ts.length ≤ maxLen) (hlq : ps.length ≤ maxLen) (hsi : ∀ i, (itx its i).size ≤ maxLen) (hsp : ∀ i, (tv ts i).size ≤ maxLen) (hf : PsFit maxLen ps) (hE : Errs w) :
  Calls Tryz.prog 3 #[fval nm now full wd room vi vp vq] w fun e w' => e = .returned (.bool true) ∧ Below w.heap.size w w' := by
 have HI := hid hi
 have HP := hid hp
 have HQ := hid hq
 obtain ⟨ai, ci, rfl, _⟩ := hi
 obtain ⟨ap, cp, rfl, _⟩ := hp.form
 obtain ⟨aq, cq, rfl, _⟩ := hq
 have hA := (Below.refl w.heap.size w).alloc (Nat.le_refl _) (.cells (fcells nm now full wd room (.slice ai its.length ci) (.slice ap ts.length cp) (.slice aq ps.length cq)) 28)
 have N1 := Blk.new w 28 (fcells nm now full wd room (.slice ai its.length ci) (.slice ap ts.length cp) (.slice aq ps.length cq))
 obtain ⟨w0, hw0⟩ : ∃ x, x = w.alloc (.cells (fcells nm now full wd room (.slice ai its.length ci) (.slice ap ts.length cp) (.slice aq ps.length cq)) 28) := ⟨_, rfl⟩
 rw [← hw0] at hA N1
 have HA := hid hA
 have HN1 := hid N1
 have HZ := hid (szFetchT_any nm now full wd room _ _ _ its ts ps w0 (HI.out.below hA) (HP.out.below hA) (HQ.out.below hA) hnm hli hlp hlq hsi hsp hf)
 have HFM := hid hf
 have HER := hid hE
 clear hp hA N1 hsi hsp hf hnm hE
 go_enter Tryz.func3, Tryz.ntmps3
 go_wp2_with fail
 rw [← hw0]
 clear hw0
 refine HZ.out.mono ?_
 rintro e w1 ⟨r, rfl, hr1, hr, hb1⟩
 have B1 := HA.out.trans (hb1.mono HA.out.size)
 have X1 := HN1.out.below hb1
 by_cases hneg : r < 0
 ·have HB := hid B1
  clear hr hb1 B1 X1
  go_wp2
  go_ret
  exact ⟨by simp, HB.out⟩
 obtain ⟨htt, l0, l1, s1, l2, s2, l3, ff⟩ := hr (by omega)
 have HXw1 := hid X1
 have HBWw1 := hid B1
 have HFF := hid ff
 have HS1 := hid s1
 have HS2 := hid s2
 have hs1 := B1.size
 have hxk := HXw1.out.lt
 have HT := hid fun W h k l => toFetch_any nm now full wd room (.slice ai its.length ci) (.slice ap ts.length cp) (.slice aq ps.length cq) its ts ps W h k l l1 l2 l3 HFF.out
 have HS := hid fun a b c qs W B (h : FetchOwn W B a b c its ts qs) (e : qs.map Prod.fst = ps) => specFetchTick_any nm now full wd room a b c its ts qs W B h l1 l2 (by rw [← e, List.length_map] at l3; exact l3) HS1.out HS2.out (by rw [e]; exact HFF.out)
 have HM := hid fun a b c W h k l (e : Errs W) => implFetchTick_any nm now full wd room a b c its ts ps W h k l l0 l1 l2 l3 HS1.out HS2.out HFF.out e
 have HE0 := hid fun a b c d e f W h1 h2 h3 h4 h5 h6 => eqFetch_any nm now full wd room a b c d e f its ts ps W h1 h2 h3 h4 h5 h6 hli hlp hlq HFM.out
 have hec1 := enters_of Tryz.func6 (by kernel_rfl) rfl
 have hec5 := enters_of Tryz.func8 (by kernel_rfl) rfl
 clear hr hb1 B1 X1 HZ ff s1 s2 hr1
 have u0 : w1.cell? ⟨w.heap.size, 0, none⟩ = some (.string nm) := HXw1.out.cell 0
 have u1 : w1.cell? ⟨w.heap.size, 1, none⟩ = some (.int .i64 now) := HXw1.out.cell 1
 have u2 : w1.cell? ⟨w.heap.size, 2, none⟩ = some (.bool full) := HXw1.out.cell 2
 have u3 : w1.cell? ⟨w.heap.size, 3, none⟩ = some (.int .i64 wd) := HXw1.out.cell 3
 have u4 : w1.cell? ⟨w.heap.size, 4, none⟩ = some (.int .i64 room) := HXw1.out.cell 4
 have u5 : w1.cell? ⟨w.heap.size, 5, none⟩ = some (.slice ai its.length ci) := HXw1.out.cell 5
 have u6 : w1.cell? ⟨w.heap.size, 6, none⟩ = some (.slice ap ts.length cp) := HXw1.out.cell 6
 have u7 : w1.cell? ⟨w.heap.size, 7, none⟩ = some (.slice aq ps.length cq) := HXw1.out.cell 7
 go_wp2_with fail
 refine (HT.out _ (HI.out.below HBWw1.out) (HP.out.below HBWw1.out) (HQ.out.below HBWw1.out)).mono ?_
 rintro e w2 ⟨i2, p2, q2, qs2, rfl, hqs2, fo2, _, hb2⟩
 have HXw2 := hid (HXw1.out.below hb2)
 have HBWw2 := hid (HBWw1.out.trans (hb2.mono HBWw1.out.size))
 have hs_w2 := hb2.size
 obtain ⟨a2, c2, rfl⟩ := row_any fo2.store.items
 obtain ⟨b2, d2, rfl⟩ := row_any fo2.store.pins
 obtain ⟨e2, g2, rfl⟩ := row_any fo2.peers.row
 have HSP := hid (HS.out _ _ _ _ _ _ fo2 hqs2)
 rw [hqs2] at HSP
 clear hb2 fo2 hqs2 u0 u1 u2 u3 u4 u5 u6 u7
 go_wp2_with fail
 refine HSP.out.mono ?_
 rintro e w3 hC
 obtain ⟨n3, t3, f3, x3, r3, its3, ts3, qs3, vi3, vp3, vq3, vm3, out3, rfl, hres3, fo3, mo3, ap3, hb3⟩ := hC
 obtain ⟨a3, c3, rfl⟩ := row_any fo3.store.items
 obtain ⟨b3, d3, rfl⟩ := row_any fo3.store.pins
 obtain ⟨e3, g3, rfl⟩ := row_any fo3.peers.row
 obtain ⟨am3, cm3, hvm3⟩ := row_any mo3
 rw [List.length_map] at hvm3
 subst hvm3
 obtain ⟨hk1, hk2, hk3, hk4, hk5, hk6⟩ := tick_len hres3
 have HRES := hid hres3
 have HFit3 : Hid (PsFit maxLen (qs3.map Prod.fst)) := hid fun i hi => ⟨Nat.le_trans (hk5 i hi).asked (by unfold maxLen; omega), Nat.le_trans (hk5 i hi).nots (by unfold maxLen; omega), fun j => Nat.le_trans ((hk5 i hi).each j) (by unfold maxLen; omega)⟩
 have HL3 := hid fo3.lt
 have HLM3 := hid fun g e => (World.ownsRow.lt mo3 g e).2
 have HTw3 := hid fo3
 have HSw3 := hid mo3
 have HXw3 := hid (HXw2.out.below hb3)
 have HBWw3 := hid (HBWw2.out.trans (hb3.mono HBWw2.out.size))
 have hs_w3 := hb3.size
 obtain ⟨w4, hw4⟩ : ∃ x, x = w3.alloc (.cells (fcells n3 t3 f3 x3 r3 (.slice a3 its3.length c3) (.slice b3 ts3.length d3) (.slice e3 qs3.length g3)) 35) := ⟨_, rfl⟩
 have hz4 : w4.heap.size = w3.heap.size + 1 := by rw [hw4, World.size_alloc]
 have D4 : Below w3.heap.size w3 w4 := by rw [hw4]; exact (Below.refl _ _).alloc (Nat.le_refl _) _
 have K4 : Blk w4 w3.heap.size 35 (fcells n3 t3 f3 x3 r3 (.slice a3 its3.length c3) (.slice b3 ts3.length d3) (.slice e3 qs3.length g3)) := by rw [hw4]; exact Blk.new w3 35 _
 have hs4a : w3.heap.size + 1 ≤ w4.heap.size := by omega
 have hs4b : w4.heap.size ≤ w3.heap.size + 1 := by omega
 have HYw4 := hid K4
 have HXw4 := hid (HXw3.out.below D4)
 have HBWw4 := hid (HBWw3.out.trans (D4.mono HBWw3.out.size))
 have HTw4 := hid (HTw3.out.below D4)
 have HSw4 := hid (Below.row D4 HSw3.out)
 have hs_w4 := D4.size
 have u0 : w4.cell? ⟨w.heap.size, 0, none⟩ = some (.string nm) := HXw4.out.cell 0
 have u1 : w4.cell? ⟨w.heap.size, 1, none⟩ = some (.int .i64 now) := HXw4.out.cell 1
 have u2 : w4.cell? ⟨w.heap.size, 2, none⟩ = some (.bool full) := HXw4.out.cell 2
 have u3 : w4.cell? ⟨w.heap.size, 3, none⟩ = some (.int .i64 wd) := HXw4.out.cell 3
 have u4 : w4.cell? ⟨w.heap.size, 4, none⟩ = some (.int .i64 room) := HXw4.out.cell 4
 have u5 : w4.cell? ⟨w.heap.size, 5, none⟩ = some (.slice ai its.length ci) := HXw4.out.cell 5
 have u6 : w4.cell? ⟨w.heap.size, 6, none⟩ = some (.slice ap ts.length cp) := HXw4.out.cell 6
 have u7 : w4.cell? ⟨w.heap.size, 7, none⟩ = some (.slice aq ps.length cq) := HXw4.out.cell 7
 clear hres3 fo3 mo3 ap3 hb3 hk5 D4 K4 hz4
 go_upto_region 6 with fail
 rw [← hw4]
 clear hw4
 go_wp2_with fail
 refine (HT.out _ (HI.out.below HBWw4.out) (HP.out.below HBWw4.out) (HQ.out.below HBWw4.out)).mono ?_
 rintro e w5 ⟨i5, p5, q5, qs5, rfl, hqs5, fo5, _, hb5⟩
 obtain ⟨a5, c5, rfl⟩ := row_any fo5.store.items
 obtain ⟨b5, d5, rfl⟩ := row_any fo5.store.pins
 obtain ⟨e5, g5, rfl⟩ := row_any fo5.peers.row
 have HL5 := hid fo5.lt
 have HQS5 := hid hqs5
 have HFw5 := hid fo5
 have HXw5 := hid (HXw4.out.below hb5)
 have HBWw5 := hid (HBWw4.out.trans (hb5.mono HBWw4.out.size))
 have HTw5 := hid (HTw4.out.below hb5)
 have HSw5 := hid (Below.row hb5 HSw4.out)
 have HYw5 := hid (HYw4.out.below hb5)
 have hs_w5 := hb5.size
 obtain ⟨w6, hw6⟩ : ∃ x, x = w5.alloc (.cells (fcells nm now full wd room (.slice a5 its.length c5) (.slice b5 ts.length d5) (.slice e5 qs5.length g5)) 35) := ⟨_, rfl⟩
 have hz6 : w6.heap.size = w5.heap.size + 1 := by rw [hw6, World.size_alloc]
 have D6 : Below w5.heap.size w5 w6 := by rw [hw6]; exact (Below.refl _ _).alloc (Nat.le_refl _) _
 have K6 : Blk w6 w5.heap.size 35 (fcells nm now full wd room (.slice a5 its.length c5) (.slice b5 ts.length d5) (.slice e5 qs5.length g5)) := by rw [hw6]; exact Blk.new w5 35 _
 have hs6a : w5.heap.size + 1 ≤ w6.heap.size := by omega
 have hs6b : w6.heap.size ≤ w5.heap.size + 1 := by omega
 have HKw6 := hid K6
 have HXw6 := hid (HXw5.out.below D6)
 have HBWw6 := hid (HBWw5.out.trans (D6.mono HBWw5.out.size))
 have HTw6 := hid (HTw5.out.below D6)
 have HSw6 := hid (Below.row D6 HSw5.out)
 have HYw6 := hid (HYw5.out.below D6)
 have HFw6 := hid (HFw5.out.below D6)
 have hs_w6 := D6.size
 have r6 := HFw6.out.peers.rdp
 rw [HQS5.out] at r6
 have HMP := hid (HM.out _ _ _ w6 HFw6.out.store.rdi (Reads.of_row HFw6.out.store.pins) r6 (HER.out.below HBWw6.out))
 have v0 : w6.cell? ⟨w5.heap.size, 0, none⟩ = some (.string nm) := HKw6.out.cell 0
 have v1 : w6.cell? ⟨w5.heap.size, 1, none⟩ = some (.int .i64 now) := HKw6.out.cell 1
 have v2 : w6.cell? ⟨w5.heap.size, 2, none⟩ = some (.bool full) := HKw6.out.cell 2
 have v3 : w6.cell? ⟨w5.heap.size, 3, none⟩ = some (.int .i64 wd) := HKw6.out.cell 3
 have v4 : w6.cell? ⟨w5.heap.size, 4, none⟩ = some (.int .i64 room) := HKw6.out.cell 4
 have v5 : w6.cell? ⟨w5.heap.size, 5, none⟩ = some (.slice a5 its.length c5) := HKw6.out.cell 5
 have v6 : w6.cell? ⟨w5.heap.size, 6, none⟩ = some (.slice b5 ts.length d5) := HKw6.out.cell 6
 have v7 : w6.cell? ⟨w5.heap.size, 7, none⟩ = some (.slice e5 qs5.length g5) := HKw6.out.cell 7
 clear fo5 hqs5 hb5 D6 K6 hz6 r6 u0 u1 u2 u3 u4 u5 u6 u7
 go_upto_region 7 with fail
 rw [← hw6]
 clear hw6
 go_wp2_with fail
 refine HMP.out.mono ?_
 rintro e w7 hC
 obtain ⟨n7, t7, f7, x7, r7, its7, ts7, qs7, vi7, vp7, vq7, vm7, out7, rfl, hres7, fo7, mo7, ap7, hb7⟩ := hC
 obtain ⟨e1', e2', e3', e4', e5', e6', e7', hq37, e8'⟩ := tick_same HRES.out hres7
 subst e1' e2' e3' e4' e5' e6' e7' e8'
 obtain ⟨a7, c7, rfl⟩ := row_any fo7.store.items
 obtain ⟨b7, d7, rfl⟩ := row_any fo7.store.pins
 obtain ⟨e7, g7, rfl⟩ := row_any fo7.peers.row
 obtain ⟨am7, cm7, hvm7⟩ := row_any mo7
 rw [List.length_map] at hvm7
 subst hvm7
 have HL7 := hid fo7.lt
 have HLM7 := hid fun g e => World.ownsRow.lt mo7 g e
 have HAP7 := hid ap7
 have HQ37 := hid hq37
 have HUw7 := hid fo7
 have HVw7 := hid mo7
 have HXw7 := hid (HXw6.out.below hb7)
 have HBWw7 := hid (HBWw6.out.trans (hb7.mono HBWw6.out.size))
 have HTw7 := hid (HTw6.out.below hb7)
 have HSw7 := hid (Below.row hb7 HSw6.out)
 have HYw7 := hid (HYw6.out.below hb7)
 have HKw7 := hid (HKw6.out.below hb7)
 have HFw7 := hid (HFw6.out.below hb7)
 have hs_w7 := hb7.size
 obtain ⟨w8, hw8⟩ : ∃ x, x = w7.alloc (.cells (fcells n3 t3 f3 x3 r3 (.slice a7 its3.length c7) (.slice b7 ts3.length d7) (.slice e7 qs7.length g7)) 35) := ⟨_, rfl⟩
 have hz8 : w8.heap.size = w7.heap.size + 1 := by rw [hw8, World.size_alloc]
 have D8 : Below w7.heap.size w7 w8 := by rw [hw8]; exact (Below.refl _ _).alloc (Nat.le_refl _) _
 have K8 : Blk w8 w7.heap.size 35 (fcells n3 t3 f3 x3 r3 (.slice a7 its3.length c7) (.slice b7 ts3.length d7) (.slice e7 qs7.length g7)) := by rw [hw8]; exact Blk.new w7 35 _
 have hs8a : w7.heap.size + 1 ≤ w8.heap.size := by omega
 have hs8b : w8.heap.size ≤ w7.heap.size + 1 := by omega
 have HGw8 := hid K8
 have HXw8 := hid (HXw7.out.below D8)
 have HBWw8 := hid (HBWw7.out.trans (D8.mono HBWw7.out.size))
 have HTw8 := hid (HTw7.out.below D8)
 have HSw8 := hid (Below.row D8 HSw7.out)
 have HYw8 := hid (HYw7.out.below D8)
 have HKw8 := hid (HKw7.out.below D8)
 have HFw8 := hid (HFw7.out.below D8)
 have HUw8 := hid (HUw7.out.below D8)
 have HVw8 := hid (Below.row D8 HVw7.out)
 have hs_w8 := D8.size
 have HE3 := hid fun a b c d e f W h1 h2 h3 h4 h5 h6 => eqFetch_any n3 t3 f3 x3 r3 a b c d e f its3 ts3 (qs3.map Prod.fst) W h1 h2 h3 h4 h5 h6 (by unfold maxLen; omega) (by unfold maxLen; omega) (by unfold maxLen; omega) HFit3.out
 have HEM := hid fun a b W h1 h2 => eqMessageS_any a b (out3.map msgOf) W h1 h2 (by rw [List.length_map]; unfold maxLen; omega)
 have HRQ : Hid (∀ W B (h : FetchOwn W B (.slice a7 its3.length c7) (.slice b7 ts3.length d7) (.slice e7 qs7.length g7) its3 ts3 qs7), RdP W (.slice e7 qs7.length g7) (qs3.map Prod.fst)) := hid fun W B h => by have h2 := h.peers.rdp; rw [← HQ37.out] at h2; exact h2
 have HEQ8 := hid (HE3.out _ _ _ _ _ _ w8 HUw8.out.store.rdi (Reads.of_row HUw8.out.store.pins) (HRQ.out _ _ HUw8.out) HTw8.out.store.rdi (Reads.of_row HTw8.out.store.pins) HTw8.out.peers.rdp)
 have y0 : w8.cell? ⟨w3.heap.size, 0, none⟩ = some (.string n3) := HYw8.out.cell 0
 have y1 : w8.cell? ⟨w3.heap.size, 1, none⟩ = some (.int .i64 t3) := HYw8.out.cell 1
 have y2 : w8.cell? ⟨w3.heap.size, 2, none⟩ = some (.bool f3) := HYw8.out.cell 2
 have y3 : w8.cell? ⟨w3.heap.size, 3, none⟩ = some (.int .i64 x3) := HYw8.out.cell 3
 have y4 : w8.cell? ⟨w3.heap.size, 4, none⟩ = some (.int .i64 r3) := HYw8.out.cell 4
 have y5 : w8.cell? ⟨w3.heap.size, 5, none⟩ = some (.slice a3 its3.length c3) := HYw8.out.cell 5
 have y6 : w8.cell? ⟨w3.heap.size, 6, none⟩ = some (.slice b3 ts3.length d3) := HYw8.out.cell 6
 have y7 : w8.cell? ⟨w3.heap.size, 7, none⟩ = some (.slice e3 qs3.length g3) := HYw8.out.cell 7
 have z0 : w8.cell? ⟨w7.heap.size, 0, none⟩ = some (.string n3) := HGw8.out.cell 0
 have z1 : w8.cell? ⟨w7.heap.size, 1, none⟩ = some (.int .i64 t3) := HGw8.out.cell 1
 have z2 : w8.cell? ⟨w7.heap.size, 2, none⟩ = some (.bool f3) := HGw8.out.cell 2
 have z3 : w8.cell? ⟨w7.heap.size, 3, none⟩ = some (.int .i64 x3) := HGw8.out.cell 3
 have z4 : w8.cell? ⟨w7.heap.size, 4, none⟩ = some (.int .i64 r3) := HGw8.out.cell 4
 have z5 : w8.cell? ⟨w7.heap.size, 5, none⟩ = some (.slice a7 its3.length c7) := HGw8.out.cell 5
 have z6 : w8.cell? ⟨w7.heap.size, 6, none⟩ = some (.slice b7 ts3.length d7) := HGw8.out.cell 6
 have z7 : w8.cell? ⟨w7.heap.size, 7, none⟩ = some (.slice e7 qs7.length g7) := HGw8.out.cell 7
 clear hres7 fo7 mo7 ap7 hb7 hq37 D8 K8 hz8 v0 v1 v2 v3 v4 v5 v6 v7
 go_upto_region 8 with fail
 rw [← hw8]
 clear hw8
 go_wp2_with fail
 refine HEQ8.out.mono ?_
 rintro e w9 ⟨rfl, hb9⟩
 have HXw9 := hid (HXw8.out.below hb9)
 have HBWw9 := hid (HBWw8.out.trans (hb9.mono HBWw8.out.size))
 have HTw9 := hid (HTw8.out.below hb9)
 have HSw9 := hid (Below.row hb9 HSw8.out)
 have HYw9 := hid (HYw8.out.below hb9)
 have HKw9 := hid (HKw8.out.below hb9)
 have HFw9 := hid (HFw8.out.below hb9)
 have HUw9 := hid (HUw8.out.below hb9)
 have HVw9 := hid (Below.row hb9 HVw8.out)
 have HGw9 := hid (HGw8.out.below hb9)
 have hs_w9 := hb9.size
 have HEM9 := hid (HEM.out _ _ w9 (MsgOwn.rd HVw9.out) (MsgOwn.rd HSw9.out))
 clear hb9 y0 y1 y2 y3 y4 y5 y6 y7 z0 z1 z2 z3 z4 z5 z6 z7
 go_wp2_with fail
 refine HEM9.out.mono ?_
 rintro e wa ⟨rfl, hba⟩
 have HXwa := hid (HXw9.out.below hba)
 have HBWwa := hid (HBWw9.out.trans (hba.mono HBWw9.out.size))
 have HTwa := hid (HTw9.out.below hba)
 have HSwa := hid (Below.row hba HSw9.out)
 have HYwa := hid (HYw9.out.below hba)
 have HKwa := hid (HKw9.out.below hba)
 have HFwa := hid (HFw9.out.below hba)
 have HUwa := hid (HUw9.out.below hba)
 have HVwa := hid (Below.row hba HVw9.out)
 have HGwa := hid (HGw9.out.below hba)
 have hs_wa := hba.size
 clear hba
 have HS13 := hid fun (W : World) (h : Below wa.heap.size wa W) => (show W.cell? ⟨w5.heap.size, 0, none⟩ = some (.string nm) ∧ W.cell? ⟨w5.heap.size, 1, none⟩ = some (.int .i64 now) ∧ W.cell? ⟨w5.heap.size, 2, none⟩ = some (.bool full) ∧ W.cell? ⟨w5.heap.size, 3, none⟩ = some (.int .i64 wd) ∧ W.cell? ⟨w5.heap.size, 4, none⟩ = some (.int .i64 room) ∧ W.cell? ⟨w5.heap.size, 5, none⟩ = some (.slice a5 its.length c5) ∧ W.cell? ⟨w5.heap.size, 6, none⟩ = some (.slice b5 ts.length d5) ∧ W.cell? ⟨w5.heap.size, 7, none⟩ = some (.slice e5 qs5.length g5) ∧ W.cell? ⟨w.heap.size, 0, none⟩ = some (.string nm) ∧ W.cell? ⟨w.heap.size, 1, none⟩ = some (.int .i64 now) ∧ W.cell? ⟨w.heap.size, 2, none⟩ = some (.bool full) ∧ W.cell? ⟨w.heap.size, 3, none⟩ = some (.int .i64 wd) ∧ W.cell? ⟨w.heap.size, 4, none⟩ = some (.int .i64 room) ∧ W.cell? ⟨w.heap.size, 5, none⟩ = some (.slice ai its.length ci) ∧ W.cell? ⟨w.heap.size, 6, none⟩ = some (.slice ap ts.length cp) ∧ W.cell? ⟨w.heap.size, 7, none⟩ = some (.slice aq ps.length cq) from by
  have X := HKwa.out.below h
  have Y := HXwa.out.below h
  exact ⟨X.cell 0, X.cell 1, X.cell 2, X.cell 3, X.cell 4, X.cell 5, X.cell 6, X.cell 7, Y.cell 0, Y.cell 1, Y.cell 2, Y.cell 3, Y.cell 4, Y.cell 5, Y.cell 6, Y.cell 7⟩)
 have hbd : Below wa.heap.size wa wa.drew := below_drewN (Below.refl _ _) 1
 have hS0 := HS13.out wa.drew hbd
 go_upto_region 10 with fail
 refine wp_region_held (S := fun w' => w'.cell? ⟨w5.heap.size, 0, none⟩ = some (.string nm) ∧ w'.cell? ⟨w5.heap.size, 1, none⟩ = some (.int .i64 now) ∧ w'.cell? ⟨w5.heap.size, 2, none⟩ = some (.bool full) ∧ w'.cell? ⟨w5.heap.size, 3, none⟩ = some (.int .i64 wd) ∧ w'.cell? ⟨w5.heap.size, 4, none⟩ = some (.int .i64 room) ∧ w'.cell? ⟨w5.heap.size, 5, none⟩ = some (.slice a5 its.length c5) ∧ w'.cell? ⟨w5.heap.size, 6, none⟩ = some (.slice b5 ts.length d5) ∧ w'.cell? ⟨w5.heap.size, 7, none⟩ = some (.slice e5 qs5.length g5) ∧ w'.cell? ⟨w.heap.size, 0, none⟩ = some (.string nm) ∧ w'.cell? ⟨w.heap.size, 1, none⟩ = some (.int .i64 now) ∧ w'.cell? ⟨w.heap.size, 2, none⟩ = some (.bool full) ∧ w'.cell? ⟨w.heap.size, 3, none⟩ = some (.int .i64 wd) ∧ w'.cell? ⟨w.heap.size, 4, none⟩ = some (.int .i64 room) ∧ w'.cell? ⟨w.heap.size, 5, none⟩ = some (.slice ai its.length ci) ∧ w'.cell? ⟨w.heap.size, 6, none⟩ = some (.slice ap ts.length cp) ∧ w'.cell? ⟨w.heap.size, 7, none⟩ = some (.slice aq ps.length cq)) (by kernel_rfl) ?_
 change wpAnyH _ _ _ _ _ _ _ _ (World.drew _)
 refine tkA 0 (.agg #[.string nm, .int .i64 now, .bool full, .int .i64 wd, .int .i64 room, .slice a5 its.length c5, .slice b5 ts.length d5, .slice e5 qs5.length g5]) rfl hS0 ?_
 refine tkA 1 (.agg #[.string nm, .int .i64 now, .bool full, .int .i64 wd, .int .i64 room, .slice ai its.length ci, .slice ap ts.length cp, .slice aq ps.length cq]) rfl hS0 ?_
 refine held_one 2 (by kernel_rfl) (op_calls (f := 6) (args := #[fval nm now full wd room (.slice ai its.length ci) (.slice ap ts.length cp) (.slice aq ps.length cq)]) rfl rfl (by go_simp) (HT.out _ (HI.out.below (HBWwa.out.trans (hbd.mono HBWwa.out.size))) (HP.out.below (HBWwa.out.trans (hbd.mono HBWwa.out.size))) (HQ.out.below (HBWwa.out.trans (hbd.mono HBWwa.out.size)))) ?_)
 rintro e wb ⟨i8, p8, q8, qs8, rfl, hqs8, fo8, _, hb8⟩
 have hb8' : Below wa.heap.size wa wb := ⟨hb8.os, hb8.tape, hb8.output, hb8.size, hb8.block⟩
 have hS1 := HS13.out wb hb8'
 refine ⟨_, rfl, hS1, ?_⟩
 have r8 := fo8.peers.rdp
 rw [hqs8] at r8
 have r4 := (HFwa.out.below hb8').peers.rdp
 rw [HQS5.out] at r4
 have HEQb := hid (HE0.out _ _ _ _ _ _ wb (HFwa.out.below hb8').store.rdi (Reads.of_row (HFwa.out.below hb8').store.pins) r4 fo8.store.rdi (Reads.of_row fo8.store.pins) r8)
 refine held_one 3 (by kernel_rfl) (op_calls (f := 8) (args := #[fval nm now full wd room (.slice a5 its.length c5) (.slice b5 ts.length d5) (.slice e5 qs5.length g5), fval nm now full wd room i8 p8 q8]) rfl rfl (by go_simp) HEQb.out ?_)
 rintro e wd' ⟨rfl, hb9⟩
 have D9 : Below wa.heap.size wa wd' := hb8'.trans (hb9.mono hb8'.size)
 have hS2 := HS13.out wd' D9
 refine ⟨_, rfl, hS2, ?_⟩
 refine tkA 4 (.bool false) rfl hS2 ?_
 refine wpAnyH_done (by kernel_rfl) ?_ _
 have HXwd' := hid (HXwa.out.below D9)
 have HBWwd' := hid (HBWwa.out.trans (D9.mono HBWwa.out.size))
 have HTwd' := hid (HTwa.out.below D9)
 have HSwd' := hid (Below.row D9 HSwa.out)
 have HYwd' := hid (HYwa.out.below D9)
 have HKwd' := hid (HKwa.out.below D9)
 have HFwd' := hid (HFwa.out.below D9)
 have HUwd' := hid (HUwa.out.below D9)
 have HVwd' := hid (Below.row D9 HVwa.out)
 have HGwd' := hid (HGwa.out.below D9)
 have hs_wd' := D9.size
 have htq5 : totQ qs5 = totP ps := by rw [← HQS5.out]; rfl
 have HMK := hid (markFetch_any nm now full wd room _ _ _ _ its ts qs5 wd' HFwd'.out (by omega))
 clear hS0 hS1 hS2 hbd hb8 hb8' hb9 D9 fo8 hqs8 r8 r4
 have v0 : wd'.cell? ⟨w5.heap.size, 0, none⟩ = some (.string nm) := HKwd'.out.cell 0
 have v1 : wd'.cell? ⟨w5.heap.size, 1, none⟩ = some (.int .i64 now) := HKwd'.out.cell 1
 have v2 : wd'.cell? ⟨w5.heap.size, 2, none⟩ = some (.bool full) := HKwd'.out.cell 2
 have v3 : wd'.cell? ⟨w5.heap.size, 3, none⟩ = some (.int .i64 wd) := HKwd'.out.cell 3
 have v4 : wd'.cell? ⟨w5.heap.size, 4, none⟩ = some (.int .i64 room) := HKwd'.out.cell 4
 have v5 : wd'.cell? ⟨w5.heap.size, 5, none⟩ = some (.slice a5 its.length c5) := HKwd'.out.cell 5
 have v6 : wd'.cell? ⟨w5.heap.size, 6, none⟩ = some (.slice b5 ts.length d5) := HKwd'.out.cell 6
 have v7 : wd'.cell? ⟨w5.heap.size, 7, none⟩ = some (.slice e5 qs5.length g5) := HKwd'.out.cell 7
 go_simp
 go_wp2_with fail
 refine HMK.out.mono ?_
 rintro e we ⟨rfl, _, hK⟩
 have hsK := hK.size
 have hne : ∀ b, b < w4.heap.size ∨ w6.heap.size ≤ b → ¬ FBlk (.slice a5 its.length c5) (.slice b5 ts.length d5) (.slice e5 qs5.length g5) qs5 b := fun b hb h => by have h1 := HL5.out b h; omega
 have HBWwe := hid (HBWwd'.out.trans (hK.below (B := w.heap.size) (fun g hg => by have := HL5.out g hg; omega) (by omega)))
 have HXwe : Hid (Blk we w.heap.size 28 (fcells nm now full wd room (.slice ai its.length ci) (.slice ap ts.length cp) (.slice aq ps.length cq))) := hid ((hK.block _ HXwd'.out.lt (hne _ (by omega))).trans HXwd'.out)
 have HYwe : Hid (Blk we w3.heap.size 35 (fcells n3 t3 f3 x3 r3 (.slice a3 its3.length c3) (.slice b3 ts3.length d3) (.slice e3 qs3.length g3))) := hid ((hK.block _ HYwd'.out.lt (hne _ (by omega))).trans HYwd'.out)
 have HGwe : Hid (Blk we w7.heap.size 35 (fcells n3 t3 f3 x3 r3 (.slice a7 its3.length c7) (.slice b7 ts3.length d7) (.slice e7 qs7.length g7))) := hid ((hK.block _ HGwd'.out.lt (hne _ (by omega))).trans HGwd'.out)
 have HTwe := hid (HTwd'.out.same (w' := we) (fun b hb => hK.block b (HTwd'.out.lt b hb).2 (hne b (.inl (by have := (HL3.out b hb).2; omega)))))
 have HUwe := hid (HUwd'.out.same (w' := we) (fun b hb => hK.block b (HUwd'.out.lt b hb).2 (hne b (.inr (by have := (HL7.out b hb).1; omega)))))
 have TK := But.of_kept hK
 have HSwe := hid (TK.row HSwd'.out (fun g e => hne g (.inl (by have := HLM3.out g e; omega))))
 have HVwe := hid (TK.row HVwd'.out (fun g e => hne g (.inr (by have := (HLM7.out g e).1; omega))))
 have HEQe := hid (HE3.out _ _ _ _ _ _ we HUwe.out.store.rdi (Reads.of_row HUwe.out.store.pins) (HRQ.out _ _ HUwe.out) HTwe.out.store.rdi (Reads.of_row HTwe.out.store.pins) HTwe.out.peers.rdp)
 have hkn : ¬ (((1 + 2 * its.length + ts.length + totQ qs5 : Nat) : Int) < 0) := by omega
 have y0 : we.cell? ⟨w3.heap.size, 0, none⟩ = some (.string n3) := HYwe.out.cell 0
 have y1 : we.cell? ⟨w3.heap.size, 1, none⟩ = some (.int .i64 t3) := HYwe.out.cell 1
 have y2 : we.cell? ⟨w3.heap.size, 2, none⟩ = some (.bool f3) := HYwe.out.cell 2
 have y3 : we.cell? ⟨w3.heap.size, 3, none⟩ = some (.int .i64 x3) := HYwe.out.cell 3
 have y4 : we.cell? ⟨w3.heap.size, 4, none⟩ = some (.int .i64 r3) := HYwe.out.cell 4
 have y5 : we.cell? ⟨w3.heap.size, 5, none⟩ = some (.slice a3 its3.length c3) := HYwe.out.cell 5
 have y6 : we.cell? ⟨w3.heap.size, 6, none⟩ = some (.slice b3 ts3.length d3) := HYwe.out.cell 6
 have y7 : we.cell? ⟨w3.heap.size, 7, none⟩ = some (.slice e3 qs3.length g3) := HYwe.out.cell 7
 have z0 : we.cell? ⟨w7.heap.size, 0, none⟩ = some (.string n3) := HGwe.out.cell 0
 have z1 : we.cell? ⟨w7.heap.size, 1, none⟩ = some (.int .i64 t3) := HGwe.out.cell 1
 have z2 : we.cell? ⟨w7.heap.size, 2, none⟩ = some (.bool f3) := HGwe.out.cell 2
 have z3 : we.cell? ⟨w7.heap.size, 3, none⟩ = some (.int .i64 x3) := HGwe.out.cell 3
 have z4 : we.cell? ⟨w7.heap.size, 4, none⟩ = some (.int .i64 r3) := HGwe.out.cell 4
 have z5 : we.cell? ⟨w7.heap.size, 5, none⟩ = some (.slice a7 its3.length c7) := HGwe.out.cell 5
 have z6 : we.cell? ⟨w7.heap.size, 6, none⟩ = some (.slice b7 ts3.length d7) := HGwe.out.cell 6
 have z7 : we.cell? ⟨w7.heap.size, 7, none⟩ = some (.slice e7 qs7.length g7) := HGwe.out.cell 7
 clear hK hne TK v0 v1 v2 v3 v4 v5 v6 v7 htq5
 generalize totQ qs5 = tq5 at *
 go_wp2_with fail
 refine HEQe.out.mono ?_
 rintro e wf ⟨rfl, hbf⟩
 have HXwf := hid (HXwe.out.below hbf)
 have HBWwf := hid (HBWwe.out.trans (hbf.mono HBWwe.out.size))
 have HTwf := hid (HTwe.out.below hbf)
 have HSwf := hid (Below.row hbf HSwe.out)
 have HYwf := hid (HYwe.out.below hbf)
 have HUwf := hid (HUwe.out.below hbf)
 have HVwf := hid (Below.row hbf HVwe.out)
 have HGwf := hid (HGwe.out.below hbf)
 have hs_wf := hbf.size
 have HEMf := hid (HEM.out _ _ wf (MsgOwn.rd HVwf.out) (MsgOwn.rd HSwf.out))
 clear hbf y0 y1 y2 y3 y4 y5 y6 y7 z0 z1 z2 z3 z4 z5 z6 z7
 go_wp2_with fail
 refine HEMf.out.mono ?_
 rintro e wg ⟨rfl, hbg⟩
 have HXwg := hid (HXwf.out.below hbg)
 have HBWwg := hid (HBWwf.out.trans (hbg.mono HBWwf.out.size))
 have HTwg := hid (HTwf.out.below hbg)
 have HSwg := hid (Below.row hbg HSwf.out)
 have HYwg := hid (HYwf.out.below hbg)
 have HUwg := hid (HUwf.out.below hbg)
 have HVwg := hid (Below.row hbg HVwf.out)
 have HGwg := hid (HGwf.out.below hbg)
 have hs_wg := hbg.size
 obtain ⟨tq, htq⟩ : ∃ x, x = totP (qs3.map Prod.fst) := ⟨_, rfl⟩
 have htq7 : totQ qs7 = tq := by rw [htq, HQ37.out]; rfl
 have HMK2 := hid (markFetch_any n3 t3 f3 x3 r3 _ _ _ _ its3 ts3 qs7 wg HUwg.out (by omega))
 rw [htq7] at HMK2
 have HTQ := hid htq
 have htql : tq ≤ 1900 := by omega
 have HNG : Hid (∀ b, FBlk (.slice a7 its3.length c7) (.slice b7 ts3.length d7) (.slice e7 qs7.length g7) qs7 b → b ≠ w7.heap.size) := hid fun b hb e => by
  have := (HL7.out b hb).2
  omega
 clear hbg hkn htq htq7
 have z0 : wg.cell? ⟨w7.heap.size, 0, none⟩ = some (.string n3) := HGwg.out.cell 0
 have z1 : wg.cell? ⟨w7.heap.size, 1, none⟩ = some (.int .i64 t3) := HGwg.out.cell 1
 have z2 : wg.cell? ⟨w7.heap.size, 2, none⟩ = some (.bool f3) := HGwg.out.cell 2
 have z3 : wg.cell? ⟨w7.heap.size, 3, none⟩ = some (.int .i64 x3) := HGwg.out.cell 3
 have z4 : wg.cell? ⟨w7.heap.size, 4, none⟩ = some (.int .i64 r3) := HGwg.out.cell 4
 have z5 : wg.cell? ⟨w7.heap.size, 5, none⟩ = some (.slice a7 its3.length c7) := HGwg.out.cell 5
 have z6 : wg.cell? ⟨w7.heap.size, 6, none⟩ = some (.slice b7 ts3.length d7) := HGwg.out.cell 6
 have z7 : wg.cell? ⟨w7.heap.size, 7, none⟩ = some (.slice e7 qs7.length g7) := HGwg.out.cell 7
 go_wp2_with fail
 refine HMK2.out.mono ?_
 rintro e wh ⟨rfl, hmk, hK⟩
 have hsK2 := hK.size
 have hlo : ∀ b, b < w6.heap.size → ¬ FBlk (.slice a7 its3.length c7) (.slice b7 ts3.length d7) (.slice e7 qs7.length g7) qs7 b := fun b hb h => by have h1 := HL7.out b h; omega
 have HBWwh := hid (HBWwg.out.trans (hK.below (B := w.heap.size) (fun g hg => by have := HL7.out g hg; omega) (by omega)))
 have HXwh : Hid (Blk wh w.heap.size 28 (fcells nm now full wd room (.slice ai its.length ci) (.slice ap ts.length cp) (.slice aq ps.length cq))) := hid ((hK.block _ HXwg.out.lt (hlo _ (by omega))).trans HXwg.out)
 have HYwh : Hid (Blk wh w3.heap.size 35 (fcells n3 t3 f3 x3 r3 (.slice a3 its3.length c3) (.slice b3 ts3.length d3) (.slice e3 qs3.length g3))) := hid ((hK.block _ HYwg.out.lt (hlo _ (by omega))).trans HYwg.out)
 have HGwh : Hid (Blk wh w7.heap.size 35 (fcells n3 t3 f3 x3 r3 (.slice a7 its3.length c7) (.slice b7 ts3.length d7) (.slice e7 qs7.length g7))) := hid ((hK.block _ HGwg.out.lt (fun h => HNG.out _ h rfl)).trans HGwg.out)
 have HTwh := hid (HTwg.out.same (w' := wh) (fun b hb => hK.block b (HTwg.out.lt b hb).2 (hlo b (by have := (HL3.out b hb).2; omega))))
 have TK := But.of_kept hK
 have HSwh := hid (TK.row HSwg.out (fun g e => hlo g (by have := HLM3.out g e; omega)))
 have HVwh := hid (TK.row HVwg.out (fun g e => HAP7.out g e))
 have HUwh := hid hmk
 have hmn : 1 + 2 * its3.length + ts3.length + tq ≤ 4000 := by omega
 obtain ⟨m0, hm0⟩ : ∃ x, x = 1 + 2 * its3.length + ts3.length + tq := ⟨_, rfl⟩
 have HMM := hid (markMessageS_grown (.slice am7 out3.length cm7) m0 _ (out3.map msgOf) wh HVwh.out (by omega) (by rw [List.length_map]; omega))
 rw [List.length_map] at HMM
 have HM0 := hid hm0
 rw [← hm0] at hmn ⊢
 clear hmk hK hlo TK z0 z1 z2 z3 z4 z5 z6 z7 hm0
 go_wp2_with fail
 refine HMM.out.mono ?_
 rintro e wi ⟨rfl, hmm, hgi⟩
 have hsi' := hgi.size
 have Ti : But (fun b => ((.slice am7 out3.length cm7) : Value).ownBlock = some b) wh wi := ⟨hgi.os, hgi.tape, hgi.output, hgi.size, fun k hk hn => hgi.block k hk (fun e => hn e.symm)⟩
 have HBWwi := hid (HBWwh.out.trans (Ti.below (B := w.heap.size) HBWwh.out.size (fun b e => by have := (HLM7.out b e).1; omega)))
 have hlo : ∀ b, b < w6.heap.size → ¬ ((.slice am7 out3.length cm7) : Value).ownBlock = some b := fun b hb e => by have := (HLM7.out b e).1; omega
 have HXwi := hid (Ti.blk HXwh.out (hlo _ (by omega)))
 have HYwi := hid (Ti.blk HYwh.out (hlo _ (by omega)))
 have HGwi := hid (Ti.blk HGwh.out (fun e => by have := (HLM7.out _ e).2; omega))
 have HTwi := hid (HTwh.out.same (w' := wi) (fun b hb => Ti.block b (HTwh.out.lt b hb).2 (hlo b (by have := (HL3.out b hb).2; omega))))
 have HSwi := hid (Ti.row HSwh.out (fun g e => hlo g (by have := HLM3.out g e; omega)))
 have HUwi := hid (HUwh.out.same (w' := wi) (fun b hb => Ti.block b (HUwh.out.lt b hb).2 (fun e => HAP7.out b e (marked_blk hb))))
 have HRD := hid HUwi.out.store.rdi
 have HPD := hid (Reads.of_row HUwi.out.store.pins)
 have hqd := HUwi.out.peers.rdp
 rw [marksQ_fst, ← HQ37.out] at hqd
 have HQD := hid hqd
 have HMD := hid (MsgOwn.rd hmm)
 have HHD := hid fun W (h1 : RdI W _ _) (h2 : Reads W _ _) (h3 : RdP W _ _) => heldFetch_any n3 t3 f3 x3 r3 (.slice a7 its3.length c7) (.slice b7 ts3.length d7) (.slice e7 qs7.length g7) its3.length ts3.length (qs3.map Prod.fst) W h1 h2 h3 (by have := HTQ.out; omega)
 rw [← HTQ.out, ← HM0.out] at HHD
 have HHD1 := hid (HHD.out wi HRD.out HPD.out HQD.out)
 have HHM := hid fun W (h : RdM W (.slice am7 out3.length cm7) (marksG m0 out3.length)) => heldMessageS_any (.slice am7 out3.length cm7) m0 out3.length W h (by have := HM0.out; omega) (by omega)
 clear hmm hgi Ti hlo hqd
 have z0 : wi.cell? ⟨w7.heap.size, 0, none⟩ = some (.string n3) := HGwi.out.cell 0
 have z1 : wi.cell? ⟨w7.heap.size, 1, none⟩ = some (.int .i64 t3) := HGwi.out.cell 1
 have z2 : wi.cell? ⟨w7.heap.size, 2, none⟩ = some (.bool f3) := HGwi.out.cell 2
 have z3 : wi.cell? ⟨w7.heap.size, 3, none⟩ = some (.int .i64 x3) := HGwi.out.cell 3
 have z4 : wi.cell? ⟨w7.heap.size, 4, none⟩ = some (.int .i64 r3) := HGwi.out.cell 4
 have z5 : wi.cell? ⟨w7.heap.size, 5, none⟩ = some (.slice a7 its3.length c7) := HGwi.out.cell 5
 have z6 : wi.cell? ⟨w7.heap.size, 6, none⟩ = some (.slice b7 ts3.length d7) := HGwi.out.cell 6
 have z7 : wi.cell? ⟨w7.heap.size, 7, none⟩ = some (.slice e7 qs7.length g7) := HGwi.out.cell 7
 go_wp2_with fail
 refine HHD1.out.mono ?_
 rintro e wj ⟨rfl, hbj⟩
 have HXwj := hid (HXwi.out.below hbj)
 have HBWwj := hid (HBWwi.out.trans (hbj.mono HBWwi.out.size))
 have HTwj := hid (HTwi.out.below hbj)
 have HSwj := hid (Below.row hbj HSwi.out)
 have HYwj := hid (HYwi.out.below hbj)
 have HGwj := hid (HGwi.out.below hbj)
 have hs_wj := hbj.size
 have HJj := hid hbj
 have hnn : ¬ ((m0 : Int) < 0) := by omega
 have HHM1 := hid (HHM.out wj (HMD.out.below hbj))
 clear hbj z0 z1 z2 z3 z4 z5 z6 z7
 go_wp2_with fail
 refine HHM1.out.mono ?_
 rintro e wk ⟨rfl, hbk⟩
 have HXwk := hid (HXwj.out.below hbk)
 have HBWwk := hid (HBWwj.out.trans (hbk.mono HBWwj.out.size))
 have HTwk := hid (HTwj.out.below hbk)
 have HSwk := hid (Below.row hbk HSwj.out)
 have HYwk := hid (HYwj.out.below hbk)
 have HGwk := hid (HGwj.out.below hbk)
 have hs_wk := hbk.size
 have HJk := hid (HJj.out.trans (hbk.mono HJj.out.size))
 have hnn2 : ¬ (((m0 + 5 * out3.length : Nat) : Int) < 0) := by omega
 have u0 : wk.cell? ⟨w.heap.size, 0, none⟩ = some (.string nm) := HXwk.out.cell 0
 have u1 : wk.cell? ⟨w.heap.size, 1, none⟩ = some (.int .i64 now) := HXwk.out.cell 1
 have u2 : wk.cell? ⟨w.heap.size, 2, none⟩ = some (.bool full) := HXwk.out.cell 2
 have u3 : wk.cell? ⟨w.heap.size, 3, none⟩ = some (.int .i64 wd) := HXwk.out.cell 3
 have u4 : wk.cell? ⟨w.heap.size, 4, none⟩ = some (.int .i64 room) := HXwk.out.cell 4
 have u5 : wk.cell? ⟨w.heap.size, 5, none⟩ = some (.slice ai its.length ci) := HXwk.out.cell 5
 have u6 : wk.cell? ⟨w.heap.size, 6, none⟩ = some (.slice ap ts.length cp) := HXwk.out.cell 6
 have u7 : wk.cell? ⟨w.heap.size, 7, none⟩ = some (.slice aq ps.length cq) := HXwk.out.cell 7
 clear hbk
 go_wp2_with fail
 refine (HT.out _ (HI.out.below HBWwk.out) (HP.out.below HBWwk.out) (HQ.out.below HBWwk.out)).mono ?_
 rintro e wl ⟨il, pl, ql, qsl, rfl, hqsl, fol, _, hbl⟩
 have HBWwl := hid (HBWwk.out.trans (hbl.mono HBWwk.out.size))
 have HTwl := hid (HTwk.out.below hbl)
 have HSwl := hid (Below.row hbl HSwk.out)
 have HYwl := hid (HYwk.out.below hbl)
 have HGwl := hid (HGwk.out.below hbl)
 have hs_wl := hbl.size
 have HJl := hid (HJk.out.trans (hbl.mono HJk.out.size))
 obtain ⟨al, cl', rfl⟩ := row_any fol.store.items
 obtain ⟨bl, dl, rfl⟩ := row_any fol.store.pins
 obtain ⟨el, gl, rfl⟩ := row_any fol.peers.row
 have rl := fol.peers.rdp
 rw [hqsl] at rl
 have HMl := hid (HM.out _ _ _ wl fol.store.rdi (Reads.of_row fol.store.pins) rl (HER.out.below HBWwl.out))
 clear hbl fol hqsl rl u0 u1 u2 u3 u4 u5 u6 u7
 go_wp2_with fail
 refine HMl.out.mono ?_
 rintro e wm hC
 obtain ⟨n9, t9, f9, x9, r9, its9, ts9, qs9, vi9, vp9, vq9, vm9, out9, rfl, hres9, fo9, mo9, ap9, hbm⟩ := hC
 obtain ⟨e1', e2', e3', e4', e5', e6', e7', hq39, e8'⟩ := tick_same HRES.out hres9
 subst e1' e2' e3' e4' e5' e6' e7' e8'
 obtain ⟨a9, c9, rfl⟩ := row_any fo9.store.items
 obtain ⟨b9, d9, rfl⟩ := row_any fo9.store.pins
 obtain ⟨e9, g9, rfl⟩ := row_any fo9.peers.row
 obtain ⟨am9, cm9, hvm9⟩ := row_any mo9
 rw [List.length_map] at hvm9
 subst hvm9
 have r9' := fo9.peers.rdp
 rw [← hq39] at r9'
 have HBWwm := hid (HBWwl.out.trans (hbm.mono HBWwl.out.size))
 have HTwm := hid (HTwl.out.below hbm)
 have HSwm := hid (Below.row hbm HSwl.out)
 have HYwm := hid (HYwl.out.below hbm)
 have HGwm := hid (HGwl.out.below hbm)
 have hs_wm := hbm.size
 have HJm := hid (HJl.out.trans (hbm.mono HJl.out.size))
 obtain ⟨wn, hwn⟩ : ∃ x, x = wm.alloc (.cells (fcells n3 t3 f3 x3 r3 (.slice a9 its3.length c9) (.slice b9 ts3.length d9) (.slice e9 qs9.length g9)) 35) := ⟨_, rfl⟩
 have hzn : wn.heap.size = wm.heap.size + 1 := by rw [hwn, World.size_alloc]
 have Dn : Below wm.heap.size wm wn := by rw [hwn]; exact (Below.refl _ _).alloc (Nat.le_refl _) _
 have Kn : Blk wn wm.heap.size 35 (fcells n3 t3 f3 x3 r3 (.slice a9 its3.length c9) (.slice b9 ts3.length d9) (.slice e9 qs9.length g9)) := by rw [hwn]; exact Blk.new wm 35 _
 have hsna : wm.heap.size + 1 ≤ wn.heap.size := by omega
 have hsnb : wn.heap.size ≤ wm.heap.size + 1 := by omega
 have HBWwn := hid (HBWwm.out.trans (Dn.mono HBWwm.out.size))
 have HTwn := hid (HTwm.out.below Dn)
 have HSwn := hid (Below.row Dn HSwm.out)
 have HYwn := hid (HYwm.out.below Dn)
 have HGwn := hid (HGwm.out.below Dn)
 have hs_wn := Dn.size
 have HJn := hid (HJm.out.trans (Dn.mono HJm.out.size))
 have HEQn := hid (HE3.out _ _ _ _ _ _ wn (fo9.below Dn).store.rdi (Reads.of_row (fo9.below Dn).store.pins) (r9'.below Dn) HTwn.out.store.rdi (Reads.of_row HTwn.out.store.pins) HTwn.out.peers.rdp)
 have HVwn : Hid (MsgOwn wn _ (.slice am9 out3.length cm9) (out3.map msgOf)) := hid (Below.row Dn mo9)
 have y0 : wn.cell? ⟨w3.heap.size, 0, none⟩ = some (.string n3) := HYwn.out.cell 0
 have y1 : wn.cell? ⟨w3.heap.size, 1, none⟩ = some (.int .i64 t3) := HYwn.out.cell 1
 have y2 : wn.cell? ⟨w3.heap.size, 2, none⟩ = some (.bool f3) := HYwn.out.cell 2
 have y3 : wn.cell? ⟨w3.heap.size, 3, none⟩ = some (.int .i64 x3) := HYwn.out.cell 3
 have y4 : wn.cell? ⟨w3.heap.size, 4, none⟩ = some (.int .i64 r3) := HYwn.out.cell 4
 have y5 : wn.cell? ⟨w3.heap.size, 5, none⟩ = some (.slice a3 its3.length c3) := HYwn.out.cell 5
 have y6 : wn.cell? ⟨w3.heap.size, 6, none⟩ = some (.slice b3 ts3.length d3) := HYwn.out.cell 6
 have y7 : wn.cell? ⟨w3.heap.size, 7, none⟩ = some (.slice e3 qs3.length g3) := HYwn.out.cell 7
 have z0 : wn.cell? ⟨wm.heap.size, 0, none⟩ = some (.string n3) := Kn.cell 0
 have z1 : wn.cell? ⟨wm.heap.size, 1, none⟩ = some (.int .i64 t3) := Kn.cell 1
 have z2 : wn.cell? ⟨wm.heap.size, 2, none⟩ = some (.bool f3) := Kn.cell 2
 have z3 : wn.cell? ⟨wm.heap.size, 3, none⟩ = some (.int .i64 x3) := Kn.cell 3
 have z4 : wn.cell? ⟨wm.heap.size, 4, none⟩ = some (.int .i64 r3) := Kn.cell 4
 have z5 : wn.cell? ⟨wm.heap.size, 5, none⟩ = some (.slice a9 its3.length c9) := Kn.cell 5
 have z6 : wn.cell? ⟨wm.heap.size, 6, none⟩ = some (.slice b9 ts3.length d9) := Kn.cell 6
 have z7 : wn.cell? ⟨wm.heap.size, 7, none⟩ = some (.slice e9 qs9.length g9) := Kn.cell 7
 clear hres9 fo9 mo9 ap9 hbm r9' hq39 Dn Kn hzn
 go_upto_region 29 with fail
 rw [← hwn]
 clear hwn
 go_wp2_with fail
 refine HEQn.out.mono ?_
 rintro e wo ⟨rfl, hbo⟩
 have HBWwo := hid (HBWwn.out.trans (hbo.mono HBWwn.out.size))
 have HSwo := hid (Below.row hbo HSwn.out)
 have HVwo := hid (Below.row hbo HVwn.out)
 have HGwo := hid (HGwn.out.below hbo)
 have hs_wo := hbo.size
 have HJo := hid (HJn.out.trans (hbo.mono HJn.out.size))
 have HEMo := hid (HEM.out _ _ wo (MsgOwn.rd HVwo.out) (MsgOwn.rd HSwo.out))
 clear hbo y0 y1 y2 y3 y4 y5 y6 y7 z0 z1 z2 z3 z4 z5 z6 z7
 go_wp2_with fail
 refine HEMo.out.mono ?_
 rintro e wp' ⟨rfl, hbp⟩
 have HBWwp' := hid (HBWwo.out.trans (hbp.mono HBWwo.out.size))
 have HGwp' := hid (HGwo.out.below hbp)
 have hs_wp' := hbp.size
 have Jp := HJo.out.trans (hbp.mono HJo.out.size)
 have HJp := hid Jp
 have HHD2 := hid (HHD.out wp' (HRD.out.below Jp) (HPD.out.below Jp) (HQD.out.below Jp))
 have z0 : wp'.cell? ⟨w7.heap.size, 0, none⟩ = some (.string n3) := HGwp'.out.cell 0
 have z1 : wp'.cell? ⟨w7.heap.size, 1, none⟩ = some (.int .i64 t3) := HGwp'.out.cell 1
 have z2 : wp'.cell? ⟨w7.heap.size, 2, none⟩ = some (.bool f3) := HGwp'.out.cell 2
 have z3 : wp'.cell? ⟨w7.heap.size, 3, none⟩ = some (.int .i64 x3) := HGwp'.out.cell 3
 have z4 : wp'.cell? ⟨w7.heap.size, 4, none⟩ = some (.int .i64 r3) := HGwp'.out.cell 4
 have z5 : wp'.cell? ⟨w7.heap.size, 5, none⟩ = some (.slice a7 its3.length c7) := HGwp'.out.cell 5
 have z6 : wp'.cell? ⟨w7.heap.size, 6, none⟩ = some (.slice b7 ts3.length d7) := HGwp'.out.cell 6
 have z7 : wp'.cell? ⟨w7.heap.size, 7, none⟩ = some (.slice e7 qs7.length g7) := HGwp'.out.cell 7
 clear hbp Jp
 go_wp2_with fail
 refine HHD2.out.mono ?_
 rintro e wq ⟨rfl, hbq⟩
 have HBWwq := hid (HBWwp'.out.trans (hbq.mono HBWwp'.out.size))
 have HHM2 := hid (HHM.out wq (HMD.out.below (HJp.out.trans (hbq.mono HJp.out.size))))
 clear hbq z0 z1 z2 z3 z4 z5 z6 z7
 go_wp2_with fail
 refine HHM2.out.mono ?_
 rintro e wr ⟨rfl, hbr⟩
 have HBWwr := hid (HBWwq.out.trans (hbr.mono HBWwq.out.size))
 clear hbr
 go_wp2
 go_ret
 exact ⟨by simp, HBWwr.out⟩
end Go.Proofs.YtkghbegdjeehaaaGreatDoor
