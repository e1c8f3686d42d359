/- laws.FnExactFetchTake, walked. -/
import Derived.Test.YtbihndholamdfaaGreatDoorShort
import Derived.Test.YtbihndholamdfaaGreatDoorTakeSpec
import Derived.Test.YtbihndholamdfaaGreatDoorTakeTop
import Derived.Test.YtbihndholamdfaaGreatDoorTakeLen
import Derived.Test.YtbihndholamdfaaGreatDoorMsgArgs
namespace Go.Proofs.YtbihndholamdfaaGreatDoor
open Go.RowKit
/-- What stands behind a call of FetchTake: its answer in a variable. -/
def TakeB (nm : ByteArray) (now : Int) (full : Bool) (wd room : Int) (its : Itms) (ts : List ByteArray) (ps : Prs) (fr tg : Int) (sum : ByteArray) (has : Bool) (text : ByteArray) (w2 : World) (s : Value) (wx : World) : Prop :=
 ∃ ob n3 t3 f3 x3 r3 its3 ts3 qs3 vi3 vp3 vq3, s = .pointer (some ⟨ob, 0, none⟩) ∧ Blk wx ob 35 (fcells n3 t3 f3 x3 r3 vi3 vp3 vq3) ∧ TakeR nm now full wd room its ts ps fr tg sum has text n3 t3 f3 x3 r3 its3 ts3 (qs3.map Prod.fst) ∧ FetchOwn wx w2.heap.size vi3 vp3 vq3 its3 ts3 qs3 ∧ w2.heap.size ≤ ob ∧ Below w2.heap.size w2 wx
set_option maxRecDepth 100000 in
set_option maxHeartbeats 16000000 in
theorem takeLaw_walk (nm : ByteArray) (now : Int) (full : Bool) (wd room : Int) (vi vp vq : Value) (its : Itms) (ts : List ByteArray) (ps : Prs) (fr tg : Int) (sum : ByteArray) (has : Bool) (text : ByteArray) (w : World) (hi : RdI w vi its) (hp : Reads w vp ts) (hq : RdP w vq ps) (hnm : nm.size ≤ maxLen) (hli : its.length ≤ maxLen) (hlp : ts.length ≤ maxLen) (hlq : ps.length ≤ maxLen) (hsi : ∀ i, (itx its i).size ≤ maxLen) (hsp : ∀ i, (tv ts i).size ≤ maxLen) (hf : PsFit maxLen ps) (hfr : (Lit.int .i64 fr).wf = true) (hsm : sum.size ≤ maxLen) (htm : text.size ≤ maxLen) (hE : Errs w) :
  Calls Tryz.prog 4 #[fval nm now full wd room vi vp vq, .agg #[.int .i64 fr, .int .i64 tg, .string sum, .bool has, .string text]] w fun e w' => e = .returned (.bool true) ∧ Below w.heap.size w w' := by
 have HI := hid hi
 have HP := hid hp
 have HQ := hid hq
 obtain ⟨ai, ci, rfl, _⟩ := hi
 obtain ⟨ap, cp, rfl, _⟩ := hp.form
 obtain ⟨aq, cq, rfl, _⟩ := hq
 have hA := ((Below.refl w.heap.size w).alloc (Nat.le_refl _) (.cells (fcells nm now full wd room (.slice ai its.length ci) (.slice ap ts.length cp) (.slice aq ps.length cq)) 28)).alloc (by simp) (.cells #[.int .i64 fr, .int .i64 tg, .string sum, .bool has, .string text] 46)
 have N1 := (Blk.new w 28 (fcells nm now full wd room (.slice ai its.length ci) (.slice ap ts.length cp) (.slice aq ps.length cq))).alloc (.cells #[.int .i64 fr, .int .i64 tg, .string sum, .bool has, .string text] 46)
 have N2 := Blk.new (w.alloc (.cells (fcells nm now full wd room (.slice ai its.length ci) (.slice ap ts.length cp) (.slice aq ps.length cq)) 28)) 46 #[.int .i64 fr, .int .i64 tg, .string sum, .bool has, .string text]
 rw [World.size_alloc] at N2
 obtain ⟨w0, hw0⟩ : ∃ x, x = (w.alloc (.cells (fcells nm now full wd room (.slice ai its.length ci) (.slice ap ts.length cp) (.slice aq ps.length cq)) 28)).alloc (.cells #[.int .i64 fr, .int .i64 tg, .string sum, .bool has, .string text] 46) := ⟨_, rfl⟩
 rw [← hw0] at hA N1 N2
 have HA := hid hA
 have HN1 := hid N1
 have HN2 := hid N2
 have HZ := hid (szFetchT_any nm now full wd room _ _ _ its ts ps w0 (HI.out.below hA) (HP.out.below hA) (HQ.out.below hA) hnm hli hlp hlq hsi hsp hf)
 have HFM := hid hf
 have HER := hid hE
 clear hp hA N1 N2 hsi hsp hf hnm hE
 go_enter Tryz.func4, Tryz.ntmps4
 go_wp2_with fail
 rw [← hw0]
 clear hw0
 refine HZ.out.mono ?_
 rintro e w1 ⟨r, rfl, hr1, hr, hb1⟩
 have B1 := HA.out.trans (hb1.mono HA.out.size)
 have X1 := HN1.out.below hb1
 have M1 := HN2.out.below hb1
 by_cases hneg : r < 0
 ·have HB := hid B1
  clear hr hb1 B1 X1 M1
  go_wp2
  go_ret
  exact ⟨by simp, HB.out⟩
 obtain ⟨L, rfl⟩ := Int.eq_ofNat_of_zero_le (show 0 ≤ r by omega)
 obtain ⟨htt, l0, l1, s1, l2, s2, l3, ff⟩ := hr (by omega)
 have HSM := hid (szMessage_any fr tg sum has text L w1 hsm htm (by omega))
 have m0 : w1.cell? ⟨w.heap.size + 1, 0, none⟩ = some (.int .i64 fr) := M1.cell 0
 have m1 : w1.cell? ⟨w.heap.size + 1, 1, none⟩ = some (.int .i64 tg) := M1.cell 1
 have m2 : w1.cell? ⟨w.heap.size + 1, 2, none⟩ = some (.string sum) := M1.cell 2
 have m3 : w1.cell? ⟨w.heap.size + 1, 3, none⟩ = some (.bool has) := M1.cell 3
 have m4 : w1.cell? ⟨w.heap.size + 1, 4, none⟩ = some (.string text) := M1.cell 4
 have HX1 := hid X1
 have HM1 := hid M1
 have HB1 := hid B1
 have HFF := hid ff
 have HS1 := hid s1
 have HS2 := hid s2
 clear hr hb1 B1 X1 M1 HZ ff s1 s2
 go_wp2_with fail
 refine HSM.out.mono ?_
 rintro e w2 ⟨r2, rfl, hr2, hrr, hb2⟩
 have B2 := HB1.out.trans (hb2.mono HB1.out.size)
 by_cases hneg2 : r2 < 0
 ·have HB := hid B2
  clear hrr hb2 B2 m0 m1 m2 m3 m4
  go_wp2
  go_ret
  exact ⟨by simp, HB.out⟩
 have htx : text.size ≤ 1048576 := by have := (hrr (by omega)).2; omega
 have HXw2 := hid (HX1.out.below hb2)
 have HMw2 := hid (HM1.out.below hb2)
 have HBWw2 := hid B2
 have hs2 := B2.size
 have hsmk := HMw2.out.lt
 have HT := hid fun W h k l => toFetch_any nm now full wd room (.slice ai its.length ci) (.slice ap ts.length cp) (.slice aq ps.length cq) its ts ps W h k l l1 l2 l3 HFF.out
 have HTM := hid fun W => toMessage_any fr tg sum has text W
 have HS := hid fun a b c qs W B (h : FetchOwn W B a b c its ts qs) (e : qs.map Prod.fst = ps) => specFetchTake_any nm now full wd room a b c its ts qs fr tg sum has text W B h l1 l2 (by rw [← e, List.length_map] at l3; exact l3) HS1.out HS2.out (by rw [e]; exact HFF.out) htx
 have HM := hid fun a b c W h k l (e : Errs W) => implFetchTake_any nm now full wd room a b c its ts ps fr tg sum has text W h k l l0 l1 l2 l3 HS1.out HS2.out HFF.out hfr htx e
 have HE0 := hid fun a b c d e f W h1 h2 h3 h4 h5 h6 => eqFetch_any nm now full wd room a b c d e f its ts ps W h1 h2 h3 h4 h5 h6 hli hlp hlq HFM.out
 have hec1 := enters_of Tryz.func7 (by kernel_rfl) rfl
 have hec2 := enters_of Tryz.func17 (by kernel_rfl) rfl
 have hec3 := enters_of Tryz.func16 (by kernel_rfl) rfl
 have hec4 := enters_of Tryz.func18 (by kernel_rfl) rfl
 have hec5 := enters_of Tryz.func9 (by kernel_rfl) rfl
 clear hrr hb2 B2 m0 m1 m2 m3 m4 hr1 hr2
 have HSFw2 := hid fun (W : World) (h : Below w2.heap.size w2 W) => (show W.cell? ⟨w.heap.size, 0, none⟩ = some (.string nm) ∧ W.cell? ⟨w.heap.size, 1, none⟩ = some (.int .i64 now) ∧ W.cell? ⟨w.heap.size, 2, none⟩ = some (.bool full) ∧ W.cell? ⟨w.heap.size, 3, none⟩ = some (.int .i64 wd) ∧ W.cell? ⟨w.heap.size, 4, none⟩ = some (.int .i64 room) ∧ W.cell? ⟨w.heap.size, 5, none⟩ = some (.slice ai its.length ci) ∧ W.cell? ⟨w.heap.size, 6, none⟩ = some (.slice ap ts.length cp) ∧ W.cell? ⟨w.heap.size, 7, none⟩ = some (.slice aq ps.length cq) ∧ W.cell? ⟨w.heap.size + 1, 0, none⟩ = some (.int .i64 fr) ∧ W.cell? ⟨w.heap.size + 1, 1, none⟩ = some (.int .i64 tg) ∧ W.cell? ⟨w.heap.size + 1, 2, none⟩ = some (.string sum) ∧ W.cell? ⟨w.heap.size + 1, 3, none⟩ = some (.bool has) ∧ W.cell? ⟨w.heap.size + 1, 4, none⟩ = some (.string text) from by
  have X := HXw2.out.below h
  have Y := HMw2.out.below h
  exact ⟨X.cell 0, X.cell 1, X.cell 2, X.cell 3, X.cell 4, X.cell 5, X.cell 6, X.cell 7, Y.cell 0, Y.cell 1, Y.cell 2, Y.cell 3, Y.cell 4⟩)
 have hbd : Below w2.heap.size w2 w2.drew := below_drewN (Below.refl _ _) 1
 have hS0 := HSFw2.out w2.drew hbd
 go_upto_region 8 with fail
 go_cut [6] from 23 to 27 (fun s wx => TakeB nm now full wd room its ts ps fr tg sum has text w2 s wx)
 case first =>
  refine wp_region_held (S := fun w' => w'.cell? ⟨w.heap.size, 0, none⟩ = some (.string nm) ∧ w'.cell? ⟨w.heap.size, 1, none⟩ = some (.int .i64 now) ∧ w'.cell? ⟨w.heap.size, 2, none⟩ = some (.bool full) ∧ w'.cell? ⟨w.heap.size, 3, none⟩ = some (.int .i64 wd) ∧ w'.cell? ⟨w.heap.size, 4, none⟩ = some (.int .i64 room) ∧ w'.cell? ⟨w.heap.size, 5, none⟩ = some (.slice ai its.length ci) ∧ w'.cell? ⟨w.heap.size, 6, none⟩ = some (.slice ap ts.length cp) ∧ w'.cell? ⟨w.heap.size, 7, none⟩ = some (.slice aq ps.length cq) ∧ w'.cell? ⟨w.heap.size + 1, 0, none⟩ = some (.int .i64 fr) ∧ w'.cell? ⟨w.heap.size + 1, 1, none⟩ = some (.int .i64 tg) ∧ w'.cell? ⟨w.heap.size + 1, 2, none⟩ = some (.string sum) ∧ w'.cell? ⟨w.heap.size + 1, 3, none⟩ = some (.bool has) ∧ w'.cell? ⟨w.heap.size + 1, 4, none⟩ = some (.string text)) (by kernel_rfl) ?_
  change wpAnyH _ _ _ _ _ _ _ _ (World.drew _)
  refine tkA 0 (.agg #[.string nm, .int .i64 now, .bool full, .int .i64 wd, .int .i64 room, .slice ai its.length ci, .slice ap ts.length cp, .slice aq ps.length cq]) rfl hS0 ?_
  refine tkA 2 (.agg #[.int .i64 fr, .int .i64 tg, .string sum, .bool has, .string text]) rfl hS0 ?_
  refine held_two 1 5 (by kernel_rfl) ?A1 ?B1
  case A1 =>
   refine op_calls (f := 7) (args := #[fval nm now full wd room (.slice ai its.length ci) (.slice ap ts.length cp) (.slice aq ps.length cq)]) rfl rfl (by go_simp) (HT.out _ (HI.out.below (HBWw2.out.trans (hbd.mono HBWw2.out.size))) (HP.out.below (HBWw2.out.trans (hbd.mono HBWw2.out.size))) (HQ.out.below (HBWw2.out.trans (hbd.mono HBWw2.out.size)))) ?_
   rintro e wA ⟨iA, pA, qA, qsA, rfl, hqsA, foA, _, hbA⟩
   have BA := hbd.trans (hbA.mono hbd.size)
   have hSA := HSFw2.out wA BA
   refine ⟨_, rfl, hSA, ?_⟩
   refine held_two 3 5 (by kernel_rfl) ?A2 ?B2
   case A2 =>
    refine op_calls (f := 17) (args := #[.agg #[.int .i64 fr, .int .i64 tg, .string sum, .bool has, .string text]]) rfl rfl (by go_simp) (HTM.out _) ?_
    rintro e wB ⟨rfl, hbB⟩
    have BB := BA.trans (hbB.mono BA.size)
    have foB := foA.below hbB
    have hSB := HSFw2.out wB BB
    refine ⟨_, rfl, hSB, ?_⟩
    refine held_two 4 5 (by kernel_rfl) ?A3 ?B3
    case A3 =>
     refine op_calls (f := 16) (args := #[fval nm now full wd room iA pA qA, .agg #[.int .i64 fr, .int .i64 tg, .string sum, .bool has, .string text]]) rfl rfl (by go_simp) (HS.out _ _ _ _ _ _ foB hqsA) ?_
     rintro e wC hC
     unfold TakeP at hC
     rw [hqsA] at hC
     obtain ⟨n3, t3, f3, x3, r3, its3, ts3, qs3, vi3, vp3, vq3, rfl, hres, fo3, hbC⟩ := hC
     obtain ⟨a3, c3, rfl⟩ := row_any fo3.store.items
     obtain ⟨b3, d3, rfl⟩ := row_any fo3.store.pins
     obtain ⟨e3, g3, rfl⟩ := row_any fo3.peers.row
     have BC := BB.trans (hbC.mono BB.size)
     have hzc := BB.size
     have HRES := hid hres
     have hSC := HSFw2.out wC BC
     refine ⟨_, rfl, hSC, ?_⟩
     have B1 := BC.alloc BC.size (.cells fzero 35)
     have hS1 := HSFw2.out _ B1
     have B2 := BC.alloc BC.size (.cells (fcells n3 t3 f3 x3 r3 (.slice a3 its3.length c3) (.slice b3 ts3.length d3) (.slice e3 qs3.length g3)) 35)
     have hS2 := HSFw2.out _ B2
     have HB2 := hid B2
     have HFO := hid ((fo3.below ((Below.refl _ _).alloc (Nat.le_refl _) (.cells (fcells n3 t3 f3 x3 r3 (.slice a3 its3.length c3) (.slice b3 ts3.length d3) (.slice e3 qs3.length g3)) 35))).base (show w2.heap.size ≤ _ by omega))
     have hle := BC.size
     refine held_one 5 (by kernel_rfl) (op_value (v := .pointer (some ⟨wC.heap.size, 0, none⟩)) (w' := wC.alloc (.cells fzero 35)) rfl rfl (by go_simp) ⟨hS1, ?_⟩)
     refine held_one 6 (by kernel_rfl) (op_skip (w' := wC.alloc (.cells (fcells n3 t3 f3 x3 r3 (.slice a3 its3.length c3) (.slice b3 ts3.length d3) (.slice e3 qs3.length g3)) 35)) rfl rfl (by go_simp) ⟨hS2, wpAnyH_done (by kernel_rfl) ?_ _⟩)
     clear hS1 hS2 B1 B2 fo3 hbC BC
     clear hS0 hSC
     go_simp
     go_wp2_with fail
     go_meet
     unfold TakeB
     exact ⟨wC.heap.size, n3, t3, f3, x3, r3, its3, ts3, qs3, _, _, _, rfl, Blk.new wC 35 _, HRES.out, HFO.out, hle, HB2.out⟩
    case B3 =>
     have BZ := BB.alloc BB.size (.cells fzero 35)
     have hSZ := HSFw2.out _ BZ
     have NB := Blk.new wB 35 fzero
     have hal := BB.size
     have foZ := foB.below ((Below.refl _ _).alloc (Nat.le_refl _) (.cells fzero 35))
     refine op_value (v := .pointer (some ⟨wB.heap.size, 0, none⟩)) (w' := (wB.alloc (.cells fzero 35))) rfl rfl (by go_simp) ⟨hSZ, ?_⟩
     refine held_one 4 (by kernel_rfl) (op_calls (f := 16) (args := #[fval nm now full wd room iA pA qA, .agg #[.int .i64 fr, .int .i64 tg, .string sum, .bool has, .string text]]) rfl rfl (by go_simp) (HS.out _ _ _ _ _ _ foZ hqsA) ?_)
     rintro e wC hC
     unfold TakeP at hC
     rw [hqsA] at hC
     obtain ⟨n3, t3, f3, x3, r3, its3, ts3, qs3, vi3, vp3, vq3, rfl, hres, fo3, hbC⟩ := hC
     obtain ⟨a3, c3, rfl⟩ := row_any fo3.store.items
     obtain ⟨b3, d3, rfl⟩ := row_any fo3.store.pins
     obtain ⟨e3, g3, rfl⟩ := row_any fo3.peers.row
     have BC := BZ.trans (hbC.mono BZ.size)
     have hzc := BZ.size
     have HRES := hid hres
     have hnl := NB.lt
     have NB : Blk wC _ 35 fzero := (hbC.block _ NB.lt).trans NB
     have hSC := HSFw2.out wC BC
     refine ⟨_, rfl, hSC, ?_⟩
     have s := NB.store8 (.string n3) (.int .i64 t3) (.bool f3) (.int .i64 x3) (.int .i64 r3) (.slice a3 its3.length c3) (.slice b3 ts3.length d3) (.slice e3 qs3.length g3)
     obtain ⟨q0, k0, q1, k1, q2, k2, q3, k3, q4, k4, q5, k5, q6, k6, q7, k7⟩ := s
     have HZ := hid (NB.set8 (.string n3) (.int .i64 t3) (.bool f3) (.int .i64 x3) (.int .i64 r3) (.slice a3 its3.length c3) (.slice b3 ts3.length d3) (.slice e3 qs3.length g3))
     have hle : w2.heap.size ≤ wB.heap.size := by omega
     have B2 := below_set8 BC (b := wB.heap.size) hle (Nat.le_refl _) (.string n3) (.int .i64 t3) (.bool f3) (.int .i64 x3) (.int .i64 r3) (.slice a3 its3.length c3) (.slice b3 ts3.length d3) (.slice e3 qs3.length g3)
     have hS2 := HSFw2.out _ B2
     have HB2 := hid B2
     have HFO := hid ((fo3.kept (grown_set8 wC (wB.heap.size) (.string n3) (.int .i64 t3) (.bool f3) (.int .i64 x3) (.int .i64 r3) (.slice a3 its3.length c3) (.slice b3 ts3.length d3) (.slice e3 qs3.length g3)) (by omega)).base (show w2.heap.size ≤ _ by omega))
     refine held_one 6 (by kernel_rfl) (op_skip (w' := set8 wC (wB.heap.size) (.string n3) (.int .i64 t3) (.bool f3) (.int .i64 x3) (.int .i64 r3) (.slice a3 its3.length c3) (.slice b3 ts3.length d3) (.slice e3 qs3.length g3)) rfl rfl (by unfold set8; go_simp) ⟨hS2, wpAnyH_done (by kernel_rfl) ?_ _⟩)
     clear hS2 B2 fo3 hbC BC NB q0 q1 q2 q3 q4 q5 q6 q7 k0 k1 k2 k3 k4 k5 k6 k7
     clear hS0 hSC
     go_simp
     go_wp2_with fail
     go_meet
     unfold TakeB
     exact ⟨wB.heap.size, n3, t3, f3, x3, r3, its3, ts3, qs3, _, _, _, rfl, HZ.out, HRES.out, HFO.out, hle, HB2.out⟩
   case B2 =>
    have BZ := BA.alloc BA.size (.cells fzero 35)
    have hSZ := HSFw2.out _ BZ
    have NB := Blk.new wA 35 fzero
    have hal := BA.size
    have foZ := foA.below ((Below.refl _ _).alloc (Nat.le_refl _) (.cells fzero 35))
    refine op_value (v := .pointer (some ⟨wA.heap.size, 0, none⟩)) (w' := (wA.alloc (.cells fzero 35))) rfl rfl (by go_simp) ⟨hSZ, ?_⟩
    refine held_one 3 (by kernel_rfl) (op_calls (f := 17) (args := #[.agg #[.int .i64 fr, .int .i64 tg, .string sum, .bool has, .string text]]) rfl rfl (by go_simp) (HTM.out _) ?_)
    rintro e wB ⟨rfl, hbB⟩
    have BB := BZ.trans (hbB.mono BZ.size)
    have NB : Blk wB _ 35 fzero := (hbB.block _ NB.lt).trans NB
    have foB := foZ.below hbB
    have hSB := HSFw2.out wB BB
    refine ⟨_, rfl, hSB, ?_⟩
    refine held_one 4 (by kernel_rfl) (op_calls (f := 16) (args := #[fval nm now full wd room iA pA qA, .agg #[.int .i64 fr, .int .i64 tg, .string sum, .bool has, .string text]]) rfl rfl (by go_simp) (HS.out _ _ _ _ _ _ foB hqsA) ?_)
    rintro e wC hC
    unfold TakeP at hC
    rw [hqsA] at hC
    obtain ⟨n3, t3, f3, x3, r3, its3, ts3, qs3, vi3, vp3, vq3, rfl, hres, fo3, hbC⟩ := hC
    obtain ⟨a3, c3, rfl⟩ := row_any fo3.store.items
    obtain ⟨b3, d3, rfl⟩ := row_any fo3.store.pins
    obtain ⟨e3, g3, rfl⟩ := row_any fo3.peers.row
    have BC := BB.trans (hbC.mono BB.size)
    have hzc := BB.size
    have HRES := hid hres
    have hnl := NB.lt
    have NB : Blk wC _ 35 fzero := (hbC.block _ NB.lt).trans NB
    have hSC := HSFw2.out wC BC
    refine ⟨_, rfl, hSC, ?_⟩
    have s := NB.store8 (.string n3) (.int .i64 t3) (.bool f3) (.int .i64 x3) (.int .i64 r3) (.slice a3 its3.length c3) (.slice b3 ts3.length d3) (.slice e3 qs3.length g3)
    obtain ⟨q0, k0, q1, k1, q2, k2, q3, k3, q4, k4, q5, k5, q6, k6, q7, k7⟩ := s
    have HZ := hid (NB.set8 (.string n3) (.int .i64 t3) (.bool f3) (.int .i64 x3) (.int .i64 r3) (.slice a3 its3.length c3) (.slice b3 ts3.length d3) (.slice e3 qs3.length g3))
    have hle : w2.heap.size ≤ wA.heap.size := by omega
    have B2 := below_set8 BC (b := wA.heap.size) hle (Nat.le_refl _) (.string n3) (.int .i64 t3) (.bool f3) (.int .i64 x3) (.int .i64 r3) (.slice a3 its3.length c3) (.slice b3 ts3.length d3) (.slice e3 qs3.length g3)
    have hS2 := HSFw2.out _ B2
    have HB2 := hid B2
    have HFO := hid ((fo3.kept (grown_set8 wC (wA.heap.size) (.string n3) (.int .i64 t3) (.bool f3) (.int .i64 x3) (.int .i64 r3) (.slice a3 its3.length c3) (.slice b3 ts3.length d3) (.slice e3 qs3.length g3)) (by omega)).base (show w2.heap.size ≤ _ by omega))
    refine held_one 6 (by kernel_rfl) (op_skip (w' := set8 wC (wA.heap.size) (.string n3) (.int .i64 t3) (.bool f3) (.int .i64 x3) (.int .i64 r3) (.slice a3 its3.length c3) (.slice b3 ts3.length d3) (.slice e3 qs3.length g3)) rfl rfl (by unfold set8; go_simp) ⟨hS2, wpAnyH_done (by kernel_rfl) ?_ _⟩)
    clear hS2 B2 fo3 hbC BC NB q0 q1 q2 q3 q4 q5 q6 q7 k0 k1 k2 k3 k4 k5 k6 k7
    clear hS0 hSC
    go_simp
    go_wp2_with fail
    go_meet
    unfold TakeB
    exact ⟨wA.heap.size, n3, t3, f3, x3, r3, its3, ts3, qs3, _, _, _, rfl, HZ.out, HRES.out, HFO.out, hle, HB2.out⟩
  case B1 =>
   have BZ : Below w2.heap.size w2 (w2.alloc (.cells fzero 35)).drew := below_drewN ((Below.refl w2.heap.size w2).alloc (Nat.le_refl _) (.cells fzero 35)) 1
   have hSZ := HSFw2.out _ BZ
   have NB : Blk (w2.alloc (.cells fzero 35)).drew w2.heap.size 35 fzero := Blk.new w2 35 fzero
   have hal : w2.heap.size ≤ w2.heap.size := Nat.le_refl _
   refine op_value (v := .pointer (some ⟨w2.heap.size, 0, none⟩)) (w' := (w2.alloc (.cells fzero 35)).drew) rfl rfl (by go_simp) ⟨hSZ, ?_⟩
   refine held_one 1 (by kernel_rfl) (op_calls (f := 7) (args := #[fval nm now full wd room (.slice ai its.length ci) (.slice ap ts.length cp) (.slice aq ps.length cq)]) rfl rfl (by go_simp) (HT.out _ (HI.out.below (HBWw2.out.trans (BZ.mono HBWw2.out.size))) (HP.out.below (HBWw2.out.trans (BZ.mono HBWw2.out.size))) (HQ.out.below (HBWw2.out.trans (BZ.mono HBWw2.out.size)))) ?_)
   rintro e wA ⟨iA, pA, qA, qsA, rfl, hqsA, foA, _, hbA⟩
   have BA := BZ.trans (hbA.mono BZ.size)
   have NB : Blk wA _ 35 fzero := (hbA.block _ NB.lt).trans NB
   have hSA := HSFw2.out wA BA
   refine ⟨_, rfl, hSA, ?_⟩
   refine held_one 3 (by kernel_rfl) (op_calls (f := 17) (args := #[.agg #[.int .i64 fr, .int .i64 tg, .string sum, .bool has, .string text]]) rfl rfl (by go_simp) (HTM.out _) ?_)
   rintro e wB ⟨rfl, hbB⟩
   have BB := BA.trans (hbB.mono BA.size)
   have NB : Blk wB _ 35 fzero := (hbB.block _ NB.lt).trans NB
   have foB := foA.below hbB
   have hSB := HSFw2.out wB BB
   refine ⟨_, rfl, hSB, ?_⟩
   refine held_one 4 (by kernel_rfl) (op_calls (f := 16) (args := #[fval nm now full wd room iA pA qA, .agg #[.int .i64 fr, .int .i64 tg, .string sum, .bool has, .string text]]) rfl rfl (by go_simp) (HS.out _ _ _ _ _ _ foB hqsA) ?_)
   rintro e wC hC
   unfold TakeP at hC
   rw [hqsA] at hC
   obtain ⟨n3, t3, f3, x3, r3, its3, ts3, qs3, vi3, vp3, vq3, rfl, hres, fo3, hbC⟩ := hC
   obtain ⟨a3, c3, rfl⟩ := row_any fo3.store.items
   obtain ⟨b3, d3, rfl⟩ := row_any fo3.store.pins
   obtain ⟨e3, g3, rfl⟩ := row_any fo3.peers.row
   have BC := BB.trans (hbC.mono BB.size)
   have hzc := BB.size
   have HRES := hid hres
   have hnl := NB.lt
   have NB : Blk wC _ 35 fzero := (hbC.block _ NB.lt).trans NB
   have hSC := HSFw2.out wC BC
   refine ⟨_, rfl, hSC, ?_⟩
   have s := NB.store8 (.string n3) (.int .i64 t3) (.bool f3) (.int .i64 x3) (.int .i64 r3) (.slice a3 its3.length c3) (.slice b3 ts3.length d3) (.slice e3 qs3.length g3)
   obtain ⟨q0, k0, q1, k1, q2, k2, q3, k3, q4, k4, q5, k5, q6, k6, q7, k7⟩ := s
   have HZ := hid (NB.set8 (.string n3) (.int .i64 t3) (.bool f3) (.int .i64 x3) (.int .i64 r3) (.slice a3 its3.length c3) (.slice b3 ts3.length d3) (.slice e3 qs3.length g3))
   have hle : w2.heap.size ≤ w2.heap.size := by omega
   have B2 := below_set8 BC (b := w2.heap.size) hle (Nat.le_refl _) (.string n3) (.int .i64 t3) (.bool f3) (.int .i64 x3) (.int .i64 r3) (.slice a3 its3.length c3) (.slice b3 ts3.length d3) (.slice e3 qs3.length g3)
   have hS2 := HSFw2.out _ B2
   have HB2 := hid B2
   have HFO := hid ((fo3.kept (grown_set8 wC (w2.heap.size) (.string n3) (.int .i64 t3) (.bool f3) (.int .i64 x3) (.int .i64 r3) (.slice a3 its3.length c3) (.slice b3 ts3.length d3) (.slice e3 qs3.length g3)) (by omega)).base (show w2.heap.size ≤ _ by omega))
   refine held_one 6 (by kernel_rfl) (op_skip (w' := set8 wC (w2.heap.size) (.string n3) (.int .i64 t3) (.bool f3) (.int .i64 x3) (.int .i64 r3) (.slice a3 its3.length c3) (.slice b3 ts3.length d3) (.slice e3 qs3.length g3)) rfl rfl (by unfold set8; go_simp) ⟨hS2, wpAnyH_done (by kernel_rfl) ?_ _⟩)
   clear hS2 B2 fo3 hbC BC NB q0 q1 q2 q3 q4 q5 q6 q7 k0 k1 k2 k3 k4 k5 k6 k7
   clear hS0 hSC
   go_simp
   go_wp2_with fail
   go_meet
   unfold TakeB
   exact ⟨w2.heap.size, n3, t3, f3, x3, r3, its3, ts3, qs3, _, _, _, rfl, HZ.out, HRES.out, HFO.out, hle, HB2.out⟩
 case rest =>
 obtain ⟨w3, hw3⟩ : ∃ x, x = wc := ⟨_, rfl⟩
 subst hw3
 unfold TakeB at hcut
 obtain ⟨yb, n3, t3, f3, x3, r3, its3, ts3, qs3, vi3, vp3, vq3, rfl, hY, hres, fo3, hyb, hb3⟩ := hcut
 obtain ⟨a3, c3, rfl⟩ := row_any fo3.store.items
 obtain ⟨b3, d3, rfl⟩ := row_any fo3.store.pins
 obtain ⟨e3, g3, rfl⟩ := row_any fo3.peers.row
 have hyl := hY.lt
 obtain ⟨hk1, hk2, hk3, hk4, hk5⟩ := take_len hres
 have HRES := hid hres
 have HFit3 : Hid (PsFit maxLen (qs3.map Prod.fst)) := hid fun i hi => ⟨Nat.le_trans (hk5 i hi).asked (by unfold maxLen; omega), Nat.le_trans (hk5 i hi).nots (by unfold maxLen; omega), fun j => Nat.le_trans ((hk5 i hi).each j) (by unfold maxLen; omega)⟩
 have HL3 := hid fo3.lt
 have HYw3 := hid hY
 have HTw3 := hid fo3
 have HXw3 := hid (HXw2.out.below hb3)
 have HMw3 := hid (HMw2.out.below hb3)
 have HBWw3 := hid (HBWw2.out.trans (hb3.mono HBWw2.out.size))
 have hs_w3 := hb3.size
 clear hY hres fo3 hb3 hk5 hS0 hbd
 have u0 : w3.cell? ⟨w.heap.size, 0, none⟩ = some (.string nm) := HXw3.out.cell 0
 have u1 : w3.cell? ⟨w.heap.size, 1, none⟩ = some (.int .i64 now) := HXw3.out.cell 1
 have u2 : w3.cell? ⟨w.heap.size, 2, none⟩ = some (.bool full) := HXw3.out.cell 2
 have u3 : w3.cell? ⟨w.heap.size, 3, none⟩ = some (.int .i64 wd) := HXw3.out.cell 3
 have u4 : w3.cell? ⟨w.heap.size, 4, none⟩ = some (.int .i64 room) := HXw3.out.cell 4
 have u5 : w3.cell? ⟨w.heap.size, 5, none⟩ = some (.slice ai its.length ci) := HXw3.out.cell 5
 have u6 : w3.cell? ⟨w.heap.size, 6, none⟩ = some (.slice ap ts.length cp) := HXw3.out.cell 6
 have u7 : w3.cell? ⟨w.heap.size, 7, none⟩ = some (.slice aq ps.length cq) := HXw3.out.cell 7
 go_wp2_with fail
 refine (HT.out _ (HI.out.below HBWw3.out) (HP.out.below HBWw3.out) (HQ.out.below HBWw3.out)).mono ?_
 rintro e w4 ⟨i4, p4, q4, qs4, rfl, hqs4, fo4, _, hb4⟩
 obtain ⟨a4, c4, rfl⟩ := row_any fo4.store.items
 obtain ⟨b4, d4, rfl⟩ := row_any fo4.store.pins
 obtain ⟨e4, g4, rfl⟩ := row_any fo4.peers.row
 have D5 : Below w3.heap.size w3 (w4.alloc (.cells (fcells nm now full wd room (.slice a4 its.length c4) (.slice b4 ts.length d4) (.slice e4 qs4.length g4)) 35)) := hb4.alloc hb4.size _
 have K5 := Blk.new w4 35 (fcells nm now full wd room (.slice a4 its.length c4) (.slice b4 ts.length d4) (.slice e4 qs4.length g4))
 have F5 := fo4.below ((Below.refl w4.heap.size w4).alloc (Nat.le_refl _) (.cells (fcells nm now full wd room (.slice a4 its.length c4) (.slice b4 ts.length d4) (.slice e4 qs4.length g4)) 35))
 obtain ⟨w5, hw5⟩ : ∃ x, x = w4.alloc (.cells (fcells nm now full wd room (.slice a4 its.length c4) (.slice b4 ts.length d4) (.slice e4 qs4.length g4)) 35) := ⟨_, rfl⟩
 have hz5 : w5.heap.size = w4.heap.size + 1 := by rw [hw5, World.size_alloc]
 rw [← hw5] at D5 K5 F5
 have HL4 := hid fo4.lt
 have HQS4 := hid hqs4
 have HKw5 := hid K5
 have HF4 := hid F5
 have hs4 := hb4.size
 have hs5a : w4.heap.size + 1 ≤ w5.heap.size := by omega
 have hs5b : w5.heap.size ≤ w4.heap.size + 1 := by omega
 have HXw5 := hid (HXw3.out.below D5)
 have HMw5 := hid (HMw3.out.below D5)
 have HBWw5 := hid (HBWw3.out.trans (D5.mono HBWw3.out.size))
 have HYw5 := hid (HYw3.out.below D5)
 have HTw5 := hid (HTw3.out.below D5)
 have hs_w5 := D5.size
 clear hqs4 fo4 hb4 D5 K5 F5 hz5 u0 u1 u2 u3 u4 u5 u6 u7
 go_upto_region 10 with fail
 rw [← hw5]
 clear hw5
 have HSFw5 := hid fun (W : World) (h : Below w5.heap.size w5 W) => (show W.cell? ⟨w4.heap.size, 0, none⟩ = some (.string nm) ∧ W.cell? ⟨w4.heap.size, 1, none⟩ = some (.int .i64 now) ∧ W.cell? ⟨w4.heap.size, 2, none⟩ = some (.bool full) ∧ W.cell? ⟨w4.heap.size, 3, none⟩ = some (.int .i64 wd) ∧ W.cell? ⟨w4.heap.size, 4, none⟩ = some (.int .i64 room) ∧ W.cell? ⟨w4.heap.size, 5, none⟩ = some (.slice a4 its.length c4) ∧ W.cell? ⟨w4.heap.size, 6, none⟩ = some (.slice b4 ts.length d4) ∧ W.cell? ⟨w4.heap.size, 7, none⟩ = some (.slice e4 qs4.length g4) ∧ W.cell? ⟨w.heap.size + 1, 0, none⟩ = some (.int .i64 fr) ∧ W.cell? ⟨w.heap.size + 1, 1, none⟩ = some (.int .i64 tg) ∧ W.cell? ⟨w.heap.size + 1, 2, none⟩ = some (.string sum) ∧ W.cell? ⟨w.heap.size + 1, 3, none⟩ = some (.bool has) ∧ W.cell? ⟨w.heap.size + 1, 4, none⟩ = some (.string text) from by
  have X := HKw5.out.below h
  have Y := HMw5.out.below h
  exact ⟨X.cell 0, X.cell 1, X.cell 2, X.cell 3, X.cell 4, X.cell 5, X.cell 6, X.cell 7, Y.cell 0, Y.cell 1, Y.cell 2, Y.cell 3, Y.cell 4⟩)
 have hbd : Below w5.heap.size w5 w5.drew := below_drewN (Below.refl _ _) 1
 have hS0 := HSFw5.out w5.drew hbd
 go_cut [8] from 30 to 33 (fun s wx => TakeB nm now full wd room its ts ps fr tg sum has text w5 s wx)
 case first =>
  refine wp_region_held (S := fun w' => w'.cell? ⟨w4.heap.size, 0, none⟩ = some (.string nm) ∧ w'.cell? ⟨w4.heap.size, 1, none⟩ = some (.int .i64 now) ∧ w'.cell? ⟨w4.heap.size, 2, none⟩ = some (.bool full) ∧ w'.cell? ⟨w4.heap.size, 3, none⟩ = some (.int .i64 wd) ∧ w'.cell? ⟨w4.heap.size, 4, none⟩ = some (.int .i64 room) ∧ w'.cell? ⟨w4.heap.size, 5, none⟩ = some (.slice a4 its.length c4) ∧ w'.cell? ⟨w4.heap.size, 6, none⟩ = some (.slice b4 ts.length d4) ∧ w'.cell? ⟨w4.heap.size, 7, none⟩ = some (.slice e4 qs4.length g4) ∧ w'.cell? ⟨w.heap.size + 1, 0, none⟩ = some (.int .i64 fr) ∧ w'.cell? ⟨w.heap.size + 1, 1, none⟩ = some (.int .i64 tg) ∧ w'.cell? ⟨w.heap.size + 1, 2, none⟩ = some (.string sum) ∧ w'.cell? ⟨w.heap.size + 1, 3, none⟩ = some (.bool has) ∧ w'.cell? ⟨w.heap.size + 1, 4, none⟩ = some (.string text)) (by kernel_rfl) ?_
  change wpAnyH _ _ _ _ _ _ _ _ (World.drew _)
  refine tkA 0 (.agg #[.string nm, .int .i64 now, .bool full, .int .i64 wd, .int .i64 room, .slice a4 its.length c4, .slice b4 ts.length d4, .slice e4 qs4.length g4]) rfl hS0 ?_
  refine tkA 1 (.agg #[.int .i64 fr, .int .i64 tg, .string sum, .bool has, .string text]) rfl hS0 ?_
  refine held_two 2 4 (by kernel_rfl) ?A4 ?B4
  case A4 =>
   refine op_calls (f := 17) (args := #[.agg #[.int .i64 fr, .int .i64 tg, .string sum, .bool has, .string text]]) rfl rfl (by go_simp) (HTM.out _) ?_
   rintro e wB ⟨rfl, hbB⟩
   have BB := hbd.trans (hbB.mono hbd.size)
   have foB := HF4.out.below BB
   have hSB := HSFw5.out wB BB
   refine ⟨_, rfl, hSB, ?_⟩
   refine held_two 3 4 (by kernel_rfl) ?A5 ?B5
   case A5 =>
    refine op_calls (f := 18) (args := #[fval nm now full wd room (.slice a4 its.length c4) (.slice b4 ts.length d4) (.slice e4 qs4.length g4), .agg #[.int .i64 fr, .int .i64 tg, .string sum, .bool has, .string text]]) rfl rfl (by go_simp) (HM.out _ _ _ _ foB.store.rdi (Reads.of_row foB.store.pins) (by have h := foB.peers.rdp; rw [HQS4.out] at h; exact h) (HER.out.below (HBWw5.out.trans (BB.mono HBWw5.out.size)))) ?_
    rintro e wC hC
    obtain ⟨n3, t3, f3, x3, r3, its3, ts3, qs3, vi3, vp3, vq3, rfl, hres, fo3, hbC⟩ := hC
    obtain ⟨a3, c3, rfl⟩ := row_any fo3.store.items
    obtain ⟨b3, d3, rfl⟩ := row_any fo3.store.pins
    obtain ⟨e3, g3, rfl⟩ := row_any fo3.peers.row
    have BC := BB.trans (hbC.mono BB.size)
    have hzc := BB.size
    have HRES := hid hres
    have hSC := HSFw5.out wC BC
    refine ⟨_, rfl, hSC, ?_⟩
    have B1 := BC.alloc BC.size (.cells fzero 35)
    have hS1 := HSFw5.out _ B1
    have B2 := BC.alloc BC.size (.cells (fcells n3 t3 f3 x3 r3 (.slice a3 its3.length c3) (.slice b3 ts3.length d3) (.slice e3 qs3.length g3)) 35)
    have hS2 := HSFw5.out _ B2
    have HB2 := hid B2
    have HFO := hid ((fo3.below ((Below.refl _ _).alloc (Nat.le_refl _) (.cells (fcells n3 t3 f3 x3 r3 (.slice a3 its3.length c3) (.slice b3 ts3.length d3) (.slice e3 qs3.length g3)) 35))).base (show w5.heap.size ≤ _ by omega))
    have hle := BC.size
    refine held_one 4 (by kernel_rfl) (op_value (v := .pointer (some ⟨wC.heap.size, 0, none⟩)) (w' := wC.alloc (.cells fzero 35)) rfl rfl (by go_simp) ⟨hS1, ?_⟩)
    refine held_one 5 (by kernel_rfl) (op_skip (w' := wC.alloc (.cells (fcells n3 t3 f3 x3 r3 (.slice a3 its3.length c3) (.slice b3 ts3.length d3) (.slice e3 qs3.length g3)) 35)) rfl rfl (by go_simp) ⟨hS2, wpAnyH_done (by kernel_rfl) ?_ _⟩)
    clear hS1 hS2 B1 B2 fo3 hbC BC
    clear hS0 hSC
    go_simp
    go_wp2_with fail
    go_meet
    unfold TakeB
    exact ⟨wC.heap.size, n3, t3, f3, x3, r3, its3, ts3, qs3, _, _, _, rfl, Blk.new wC 35 _, HRES.out, HFO.out, hle, HB2.out⟩
   case B5 =>
    have BZ := BB.alloc BB.size (.cells fzero 35)
    have hSZ := HSFw5.out _ BZ
    have NB := Blk.new wB 35 fzero
    have hal := BB.size
    have foZ := foB.below ((Below.refl _ _).alloc (Nat.le_refl _) (.cells fzero 35))
    refine op_value (v := .pointer (some ⟨wB.heap.size, 0, none⟩)) (w' := (wB.alloc (.cells fzero 35))) rfl rfl (by go_simp) ⟨hSZ, ?_⟩
    refine held_one 3 (by kernel_rfl) (op_calls (f := 18) (args := #[fval nm now full wd room (.slice a4 its.length c4) (.slice b4 ts.length d4) (.slice e4 qs4.length g4), .agg #[.int .i64 fr, .int .i64 tg, .string sum, .bool has, .string text]]) rfl rfl (by go_simp) (HM.out _ _ _ _ foZ.store.rdi (Reads.of_row foZ.store.pins) (by have h := foZ.peers.rdp; rw [HQS4.out] at h; exact h) (HER.out.below (HBWw5.out.trans (BZ.mono HBWw5.out.size)))) ?_)
    rintro e wC hC
    obtain ⟨n3, t3, f3, x3, r3, its3, ts3, qs3, vi3, vp3, vq3, rfl, hres, fo3, hbC⟩ := hC
    obtain ⟨a3, c3, rfl⟩ := row_any fo3.store.items
    obtain ⟨b3, d3, rfl⟩ := row_any fo3.store.pins
    obtain ⟨e3, g3, rfl⟩ := row_any fo3.peers.row
    have BC := BZ.trans (hbC.mono BZ.size)
    have hzc := BZ.size
    have HRES := hid hres
    have hnl := NB.lt
    have NB : Blk wC _ 35 fzero := (hbC.block _ NB.lt).trans NB
    have hSC := HSFw5.out wC BC
    refine ⟨_, rfl, hSC, ?_⟩
    have s := NB.store8 (.string n3) (.int .i64 t3) (.bool f3) (.int .i64 x3) (.int .i64 r3) (.slice a3 its3.length c3) (.slice b3 ts3.length d3) (.slice e3 qs3.length g3)
    obtain ⟨q0, k0, q1, k1, q2, k2, q3, k3, q4, k4, q5, k5, q6, k6, q7, k7⟩ := s
    have HZ := hid (NB.set8 (.string n3) (.int .i64 t3) (.bool f3) (.int .i64 x3) (.int .i64 r3) (.slice a3 its3.length c3) (.slice b3 ts3.length d3) (.slice e3 qs3.length g3))
    have hle : w5.heap.size ≤ wB.heap.size := by omega
    have B2 := below_set8 BC (b := wB.heap.size) hle (Nat.le_refl _) (.string n3) (.int .i64 t3) (.bool f3) (.int .i64 x3) (.int .i64 r3) (.slice a3 its3.length c3) (.slice b3 ts3.length d3) (.slice e3 qs3.length g3)
    have hS2 := HSFw5.out _ B2
    have HB2 := hid B2
    have HFO := hid ((fo3.kept (grown_set8 wC (wB.heap.size) (.string n3) (.int .i64 t3) (.bool f3) (.int .i64 x3) (.int .i64 r3) (.slice a3 its3.length c3) (.slice b3 ts3.length d3) (.slice e3 qs3.length g3)) (by omega)).base (show w5.heap.size ≤ _ by omega))
    refine held_one 5 (by kernel_rfl) (op_skip (w' := set8 wC (wB.heap.size) (.string n3) (.int .i64 t3) (.bool f3) (.int .i64 x3) (.int .i64 r3) (.slice a3 its3.length c3) (.slice b3 ts3.length d3) (.slice e3 qs3.length g3)) rfl rfl (by unfold set8; go_simp) ⟨hS2, wpAnyH_done (by kernel_rfl) ?_ _⟩)
    clear hS2 B2 fo3 hbC BC NB q0 q1 q2 q3 q4 q5 q6 q7 k0 k1 k2 k3 k4 k5 k6 k7
    clear hS0 hSC
    go_simp
    go_wp2_with fail
    go_meet
    unfold TakeB
    exact ⟨wB.heap.size, n3, t3, f3, x3, r3, its3, ts3, qs3, _, _, _, rfl, HZ.out, HRES.out, HFO.out, hle, HB2.out⟩
  case B4 =>
   have BZ : Below w5.heap.size w5 (w5.alloc (.cells fzero 35)).drew := below_drewN ((Below.refl w5.heap.size w5).alloc (Nat.le_refl _) (.cells fzero 35)) 1
   have hSZ := HSFw5.out _ BZ
   have NB : Blk (w5.alloc (.cells fzero 35)).drew w5.heap.size 35 fzero := Blk.new w5 35 fzero
   have hal : w5.heap.size ≤ w5.heap.size := Nat.le_refl _
   refine op_value (v := .pointer (some ⟨w5.heap.size, 0, none⟩)) (w' := (w5.alloc (.cells fzero 35)).drew) rfl rfl (by go_simp) ⟨hSZ, ?_⟩
   refine held_one 2 (by kernel_rfl) (op_calls (f := 17) (args := #[.agg #[.int .i64 fr, .int .i64 tg, .string sum, .bool has, .string text]]) rfl rfl (by go_simp) (HTM.out _) ?_)
   rintro e wB ⟨rfl, hbB⟩
   have BB := BZ.trans (hbB.mono BZ.size)
   have NB : Blk wB _ 35 fzero := (hbB.block _ NB.lt).trans NB
   have foB := HF4.out.below BB
   have hSB := HSFw5.out wB BB
   refine ⟨_, rfl, hSB, ?_⟩
   refine held_one 3 (by kernel_rfl) (op_calls (f := 18) (args := #[fval nm now full wd room (.slice a4 its.length c4) (.slice b4 ts.length d4) (.slice e4 qs4.length g4), .agg #[.int .i64 fr, .int .i64 tg, .string sum, .bool has, .string text]]) rfl rfl (by go_simp) (HM.out _ _ _ _ foB.store.rdi (Reads.of_row foB.store.pins) (by have h := foB.peers.rdp; rw [HQS4.out] at h; exact h) (HER.out.below (HBWw5.out.trans (BB.mono HBWw5.out.size)))) ?_)
   rintro e wC hC
   obtain ⟨n3, t3, f3, x3, r3, its3, ts3, qs3, vi3, vp3, vq3, rfl, hres, fo3, hbC⟩ := hC
   obtain ⟨a3, c3, rfl⟩ := row_any fo3.store.items
   obtain ⟨b3, d3, rfl⟩ := row_any fo3.store.pins
   obtain ⟨e3, g3, rfl⟩ := row_any fo3.peers.row
   have BC := BB.trans (hbC.mono BB.size)
   have hzc := BB.size
   have HRES := hid hres
   have hnl := NB.lt
   have NB : Blk wC _ 35 fzero := (hbC.block _ NB.lt).trans NB
   have hSC := HSFw5.out wC BC
   refine ⟨_, rfl, hSC, ?_⟩
   have s := NB.store8 (.string n3) (.int .i64 t3) (.bool f3) (.int .i64 x3) (.int .i64 r3) (.slice a3 its3.length c3) (.slice b3 ts3.length d3) (.slice e3 qs3.length g3)
   obtain ⟨q0, k0, q1, k1, q2, k2, q3, k3, q4, k4, q5, k5, q6, k6, q7, k7⟩ := s
   have HZ := hid (NB.set8 (.string n3) (.int .i64 t3) (.bool f3) (.int .i64 x3) (.int .i64 r3) (.slice a3 its3.length c3) (.slice b3 ts3.length d3) (.slice e3 qs3.length g3))
   have hle : w5.heap.size ≤ w5.heap.size := by omega
   have B2 := below_set8 BC (b := w5.heap.size) hle (Nat.le_refl _) (.string n3) (.int .i64 t3) (.bool f3) (.int .i64 x3) (.int .i64 r3) (.slice a3 its3.length c3) (.slice b3 ts3.length d3) (.slice e3 qs3.length g3)
   have hS2 := HSFw5.out _ B2
   have HB2 := hid B2
   have HFO := hid ((fo3.kept (grown_set8 wC (w5.heap.size) (.string n3) (.int .i64 t3) (.bool f3) (.int .i64 x3) (.int .i64 r3) (.slice a3 its3.length c3) (.slice b3 ts3.length d3) (.slice e3 qs3.length g3)) (by omega)).base (show w5.heap.size ≤ _ by omega))
   refine held_one 5 (by kernel_rfl) (op_skip (w' := set8 wC (w5.heap.size) (.string n3) (.int .i64 t3) (.bool f3) (.int .i64 x3) (.int .i64 r3) (.slice a3 its3.length c3) (.slice b3 ts3.length d3) (.slice e3 qs3.length g3)) rfl rfl (by unfold set8; go_simp) ⟨hS2, wpAnyH_done (by kernel_rfl) ?_ _⟩)
   clear hS2 B2 fo3 hbC BC NB q0 q1 q2 q3 q4 q5 q6 q7 k0 k1 k2 k3 k4 k5 k6 k7
   clear hS0 hSC
   go_simp
   go_wp2_with fail
   go_meet
   unfold TakeB
   exact ⟨w5.heap.size, n3, t3, f3, x3, r3, its3, ts3, qs3, _, _, _, rfl, HZ.out, HRES.out, HFO.out, hle, HB2.out⟩
 case rest =>
 obtain ⟨w6, hw6⟩ : ∃ x, x = wc := ⟨_, rfl⟩
 subst hw6
 unfold TakeB at hcut
 obtain ⟨gb, n5, t5, f5, x5, r5, its5, ts5, qs5, vi5, vp5, vq5, rfl, hG, hres5, fo5, hgb, hb6⟩ := hcut
 obtain ⟨e1', e2', e3', e4', e5', e6', e7', hq35⟩ := take_same HRES.out hres5
 subst e1' e2' e3' e4' e5' e6' e7'
 obtain ⟨a5, c5, rfl⟩ := row_any fo5.store.items
 obtain ⟨b5, d5, rfl⟩ := row_any fo5.store.pins
 obtain ⟨e5, g5, rfl⟩ := row_any fo5.peers.row
 have hgl := hG.lt
 have HL5 := hid fo5.lt
 have HNG : Hid (∀ b, FBlk (.slice a5 its3.length c5) (.slice b5 ts3.length d5) (.slice e5 qs5.length g5) qs5 b → b ≠ gb) := hid fun b hb e => by
  subst e
  rcases hb with hb | hb | hb | ⟨j, hj, hb⟩
  ·exact row_off_blk fo5.store.items hG (by decide) hb
  ·exact row_off_blk fo5.store.pins hG (by decide) hb
  ·exact row_off_blk fo5.peers.row hG (by decide) hb
  ·exact row_off_blk (fo5.peers.nots j hj) hG (by decide) hb
 have HGw6 := hid hG
 have HUw6 := hid fo5
 have HQ35 := hid hq35
 have HF4w6 := hid (HF4.out.below hb6)
 have HXw6 := hid (HXw5.out.below hb6)
 have HMw6 := hid (HMw5.out.below hb6)
 have HBWw6 := hid (HBWw5.out.trans (hb6.mono HBWw5.out.size))
 have HYw6 := hid (HYw5.out.below hb6)
 have HTw6 := hid (HTw5.out.below hb6)
 have HKw6 := hid (HKw5.out.below hb6)
 have hs_w6 := hb6.size
 clear hG hres5 fo5 hb6 hq35 hS0 hbd
 have HE3 := hid fun a b c d e f W h1 h2 h3 h4 h5 h6 => eqFetch_any n3 t3 f3 x3 r3 a b c d e f its3 ts3 (qs3.map Prod.fst) W h1 h2 h3 h4 h5 h6 (by unfold maxLen; omega) (by unfold maxLen; omega) (by unfold maxLen; omega) HFit3.out
 have HRQ : Hid (∀ W B (h : FetchOwn W B (.slice a5 its3.length c5) (.slice b5 ts3.length d5) (.slice e5 qs5.length g5) its3 ts3 qs5), RdP W (.slice e5 qs5.length g5) (qs3.map Prod.fst)) := hid fun W B h => by have h2 := h.peers.rdp; rw [← HQ35.out] at h2; exact h2
 have HEQ6 := hid (HE3.out _ _ _ _ _ _ w6 HUw6.out.store.rdi (Reads.of_row HUw6.out.store.pins) (HRQ.out _ _ HUw6.out) HTw6.out.store.rdi (Reads.of_row HTw6.out.store.pins) HTw6.out.peers.rdp)
 have y0 : w6.cell? ⟨yb, 0, none⟩ = some (.string n3) := HYw6.out.cell 0
 have y1 : w6.cell? ⟨yb, 1, none⟩ = some (.int .i64 t3) := HYw6.out.cell 1
 have y2 : w6.cell? ⟨yb, 2, none⟩ = some (.bool f3) := HYw6.out.cell 2
 have y3 : w6.cell? ⟨yb, 3, none⟩ = some (.int .i64 x3) := HYw6.out.cell 3
 have y4 : w6.cell? ⟨yb, 4, none⟩ = some (.int .i64 r3) := HYw6.out.cell 4
 have y5 : w6.cell? ⟨yb, 5, none⟩ = some (.slice a3 its3.length c3) := HYw6.out.cell 5
 have y6 : w6.cell? ⟨yb, 6, none⟩ = some (.slice b3 ts3.length d3) := HYw6.out.cell 6
 have y7 : w6.cell? ⟨yb, 7, none⟩ = some (.slice e3 qs3.length g3) := HYw6.out.cell 7
 have z0 : w6.cell? ⟨gb, 0, none⟩ = some (.string n3) := HGw6.out.cell 0
 have z1 : w6.cell? ⟨gb, 1, none⟩ = some (.int .i64 t3) := HGw6.out.cell 1
 have z2 : w6.cell? ⟨gb, 2, none⟩ = some (.bool f3) := HGw6.out.cell 2
 have z3 : w6.cell? ⟨gb, 3, none⟩ = some (.int .i64 x3) := HGw6.out.cell 3
 have z4 : w6.cell? ⟨gb, 4, none⟩ = some (.int .i64 r3) := HGw6.out.cell 4
 have z5 : w6.cell? ⟨gb, 5, none⟩ = some (.slice a5 its3.length c5) := HGw6.out.cell 5
 have z6 : w6.cell? ⟨gb, 6, none⟩ = some (.slice b5 ts3.length d5) := HGw6.out.cell 6
 have z7 : w6.cell? ⟨gb, 7, none⟩ = some (.slice e5 qs5.length g5) := HGw6.out.cell 7
 go_wp2_with fail
 refine HEQ6.out.mono ?_
 rintro e w7 ⟨rfl, hb7⟩
 have HXw7 := hid (HXw6.out.below hb7)
 have HMw7 := hid (HMw6.out.below hb7)
 have HBWw7 := hid (HBWw6.out.trans (hb7.mono HBWw6.out.size))
 have HYw7 := hid (HYw6.out.below hb7)
 have HTw7 := hid (HTw6.out.below hb7)
 have HKw7 := hid (HKw6.out.below hb7)
 have HGw7 := hid (HGw6.out.below hb7)
 have HUw7 := hid (HUw6.out.below hb7)
 have HF4w7 := hid (HF4w6.out.below hb7)
 have hs_w7 := hb7.size
 clear hb7 y0 y1 y2 y3 y4 y5 y6 y7 z0 z1 z2 z3 z4 z5 z6 z7
 have HS13 := hid fun (W : World) (h : Below w7.heap.size w7 W) => (show W.cell? ⟨w4.heap.size, 0, none⟩ = some (.string nm) ∧ W.cell? ⟨w4.heap.size, 1, none⟩ = some (.int .i64 now) ∧ W.cell? ⟨w4.heap.size, 2, none⟩ = some (.bool full) ∧ W.cell? ⟨w4.heap.size, 3, none⟩ = some (.int .i64 wd) ∧ W.cell? ⟨w4.heap.size, 4, none⟩ = some (.int .i64 room) ∧ W.cell? ⟨w4.heap.size, 5, none⟩ = some (.slice a4 its.length c4) ∧ W.cell? ⟨w4.heap.size, 6, none⟩ = some (.slice b4 ts.length d4) ∧ W.cell? ⟨w4.heap.size, 7, none⟩ = some (.slice e4 qs4.length g4) ∧ W.cell? ⟨w.heap.size, 0, none⟩ = some (.string nm) ∧ W.cell? ⟨w.heap.size, 1, none⟩ = some (.int .i64 now) ∧ W.cell? ⟨w.heap.size, 2, none⟩ = some (.bool full) ∧ W.cell? ⟨w.heap.size, 3, none⟩ = some (.int .i64 wd) ∧ W.cell? ⟨w.heap.size, 4, none⟩ = some (.int .i64 room) ∧ W.cell? ⟨w.heap.size, 5, none⟩ = some (.slice ai its.length ci) ∧ W.cell? ⟨w.heap.size, 6, none⟩ = some (.slice ap ts.length cp) ∧ W.cell? ⟨w.heap.size, 7, none⟩ = some (.slice aq ps.length cq) from by
  have X := HKw7.out.below h
  have Y := HXw7.out.below h
  exact ⟨X.cell 0, X.cell 1, X.cell 2, X.cell 3, X.cell 4, X.cell 5, X.cell 6, X.cell 7, Y.cell 0, Y.cell 1, Y.cell 2, Y.cell 3, Y.cell 4, Y.cell 5, Y.cell 6, Y.cell 7⟩)
 have hbd : Below w7.heap.size w7 w7.drew := below_drewN (Below.refl _ _) 1
 have hS0 := HS13.out w7.drew hbd
 go_wp2_with fail
 refine wp_region_held (S := fun w' => w'.cell? ⟨w4.heap.size, 0, none⟩ = some (.string nm) ∧ w'.cell? ⟨w4.heap.size, 1, none⟩ = some (.int .i64 now) ∧ w'.cell? ⟨w4.heap.size, 2, none⟩ = some (.bool full) ∧ w'.cell? ⟨w4.heap.size, 3, none⟩ = some (.int .i64 wd) ∧ w'.cell? ⟨w4.heap.size, 4, none⟩ = some (.int .i64 room) ∧ w'.cell? ⟨w4.heap.size, 5, none⟩ = some (.slice a4 its.length c4) ∧ w'.cell? ⟨w4.heap.size, 6, none⟩ = some (.slice b4 ts.length d4) ∧ w'.cell? ⟨w4.heap.size, 7, none⟩ = some (.slice e4 qs4.length g4) ∧ w'.cell? ⟨w.heap.size, 0, none⟩ = some (.string nm) ∧ w'.cell? ⟨w.heap.size, 1, none⟩ = some (.int .i64 now) ∧ w'.cell? ⟨w.heap.size, 2, none⟩ = some (.bool full) ∧ w'.cell? ⟨w.heap.size, 3, none⟩ = some (.int .i64 wd) ∧ w'.cell? ⟨w.heap.size, 4, none⟩ = some (.int .i64 room) ∧ w'.cell? ⟨w.heap.size, 5, none⟩ = some (.slice ai its.length ci) ∧ w'.cell? ⟨w.heap.size, 6, none⟩ = some (.slice ap ts.length cp) ∧ w'.cell? ⟨w.heap.size, 7, none⟩ = some (.slice aq ps.length cq)) (by kernel_rfl) ?_
 change wpAnyH _ _ _ _ _ _ _ _ (World.drew _)
 refine tkA 0 (.agg #[.string nm, .int .i64 now, .bool full, .int .i64 wd, .int .i64 room, .slice a4 its.length c4, .slice b4 ts.length d4, .slice e4 qs4.length g4]) rfl hS0 ?_
 refine tkA 1 (.agg #[.string nm, .int .i64 now, .bool full, .int .i64 wd, .int .i64 room, .slice ai its.length ci, .slice ap ts.length cp, .slice aq ps.length cq]) rfl hS0 ?_
 refine held_one 2 (by kernel_rfl) (op_calls (f := 7) (args := #[fval nm now full wd room (.slice ai its.length ci) (.slice ap ts.length cp) (.slice aq ps.length cq)]) rfl rfl (by go_simp) (HT.out _ (HI.out.below (HBWw7.out.trans (hbd.mono HBWw7.out.size))) (HP.out.below (HBWw7.out.trans (hbd.mono HBWw7.out.size))) (HQ.out.below (HBWw7.out.trans (hbd.mono HBWw7.out.size)))) ?_)
 rintro e w8 ⟨i8, p8, q8, qs8, rfl, hqs8, fo8, _, hb8⟩
 have hb8' : Below w7.heap.size w7 w8 := ⟨hb8.os, hb8.tape, hb8.output, hb8.size, hb8.block⟩
 have hS1 := HS13.out w8 hb8'
 refine ⟨_, rfl, hS1, ?_⟩
 have r8 := fo8.peers.rdp
 rw [hqs8] at r8
 have r4 := (HF4w7.out.below hb8').peers.rdp
 rw [HQS4.out] at r4
 have HEQ8 := hid (HE0.out _ _ _ _ _ _ w8 (HF4w7.out.below hb8').store.rdi (Reads.of_row (HF4w7.out.below hb8').store.pins) r4 fo8.store.rdi (Reads.of_row fo8.store.pins) r8)
 refine held_one 3 (by kernel_rfl) (op_calls (f := 9) (args := #[fval nm now full wd room (.slice a4 its.length c4) (.slice b4 ts.length d4) (.slice e4 qs4.length g4), fval nm now full wd room i8 p8 q8]) rfl rfl (by go_simp) HEQ8.out ?_)
 rintro e w9 ⟨rfl, hb9⟩
 have D9 : Below w7.heap.size w7 w9 := hb8'.trans (hb9.mono hb8'.size)
 have hS2 := HS13.out w9 D9
 refine ⟨_, rfl, hS2, ?_⟩
 refine tkA 4 (.bool false) rfl hS2 ?_
 refine wpAnyH_done (by kernel_rfl) ?_ _
 have HXw9 := hid (HXw7.out.below D9)
 have HMw9 := hid (HMw7.out.below D9)
 have HBWw9 := hid (HBWw7.out.trans (D9.mono HBWw7.out.size))
 have HYw9 := hid (HYw7.out.below D9)
 have HTw9 := hid (HTw7.out.below D9)
 have HKw9 := hid (HKw7.out.below D9)
 have HGw9 := hid (HGw7.out.below D9)
 have HUw9 := hid (HUw7.out.below D9)
 have HF4w9 := hid (HF4w7.out.below D9)
 have hs_w9 := D9.size
 have htq4 : totQ qs4 = totP ps := by rw [← HQS4.out]; rfl
 have HMK := hid (markFetch_any nm now full wd room _ _ _ _ its ts qs4 w9 HF4w9.out (by omega))
 clear hS0 hS1 hS2 hbd hb8 hb8' hb9 D9 fo8 hqs8 r8 r4
 have v0 : w9.cell? ⟨w4.heap.size, 0, none⟩ = some (.string nm) := HKw9.out.cell 0
 have v1 : w9.cell? ⟨w4.heap.size, 1, none⟩ = some (.int .i64 now) := HKw9.out.cell 1
 have v2 : w9.cell? ⟨w4.heap.size, 2, none⟩ = some (.bool full) := HKw9.out.cell 2
 have v3 : w9.cell? ⟨w4.heap.size, 3, none⟩ = some (.int .i64 wd) := HKw9.out.cell 3
 have v4 : w9.cell? ⟨w4.heap.size, 4, none⟩ = some (.int .i64 room) := HKw9.out.cell 4
 have v5 : w9.cell? ⟨w4.heap.size, 5, none⟩ = some (.slice a4 its.length c4) := HKw9.out.cell 5
 have v6 : w9.cell? ⟨w4.heap.size, 6, none⟩ = some (.slice b4 ts.length d4) := HKw9.out.cell 6
 have v7 : w9.cell? ⟨w4.heap.size, 7, none⟩ = some (.slice e4 qs4.length g4) := HKw9.out.cell 7
 go_simp
 go_wp2_with fail
 refine HMK.out.mono ?_
 rintro e w10 ⟨rfl, _, hK⟩
 have hsK := hK.size
 have hne : ∀ b, b < w3.heap.size ∨ w5.heap.size ≤ b → ¬ FBlk (.slice a4 its.length c4) (.slice b4 ts.length d4) (.slice e4 qs4.length g4) qs4 b := fun b hb h => by have h1 := HL4.out b h; omega
 have HBWw10 := hid (HBWw9.out.trans (hK.below (B := w.heap.size) (fun g hg => by have := HL4.out g hg; omega) (by omega)))
 have HXw10 : Hid (Blk w10 w.heap.size 28 (fcells nm now full wd room (.slice ai its.length ci) (.slice ap ts.length cp) (.slice aq ps.length cq))) := hid ((hK.block _ HXw9.out.lt (hne _ (by omega))).trans HXw9.out)
 have HMw10 : Hid (Blk w10 (w.heap.size + 1) 46 #[.int .i64 fr, .int .i64 tg, .string sum, .bool has, .string text]) := hid ((hK.block _ HMw9.out.lt (hne _ (by omega))).trans HMw9.out)
 have HYw10 : Hid (Blk w10 yb 35 (fcells n3 t3 f3 x3 r3 (.slice a3 its3.length c3) (.slice b3 ts3.length d3) (.slice e3 qs3.length g3))) := hid ((hK.block _ HYw9.out.lt (hne _ (by omega))).trans HYw9.out)
 have HGw10 : Hid (Blk w10 gb 35 (fcells n3 t3 f3 x3 r3 (.slice a5 its3.length c5) (.slice b5 ts3.length d5) (.slice e5 qs5.length g5))) := hid ((hK.block _ HGw9.out.lt (hne _ (by omega))).trans HGw9.out)
 have HTw10 := hid (HTw9.out.same (w' := w10) (fun b hb => hK.block b (HTw9.out.lt b hb).2 (hne b (.inl (by have := (HL3.out b hb).2; omega)))))
 have HUw10 := hid (HUw9.out.same (w' := w10) (fun b hb => hK.block b (HUw9.out.lt b hb).2 (hne b (.inr (HL5.out b hb).1))))
 have HEQ10 := hid (HE3.out _ _ _ _ _ _ w10 HUw10.out.store.rdi (Reads.of_row HUw10.out.store.pins) (HRQ.out _ _ HUw10.out) HTw10.out.store.rdi (Reads.of_row HTw10.out.store.pins) HTw10.out.peers.rdp)
 have hkn : ¬ (((1 + 2 * its.length + ts.length + totQ qs4 : Nat) : Int) < 0) := by omega
 have y0 : w10.cell? ⟨yb, 0, none⟩ = some (.string n3) := HYw10.out.cell 0
 have y1 : w10.cell? ⟨yb, 1, none⟩ = some (.int .i64 t3) := HYw10.out.cell 1
 have y2 : w10.cell? ⟨yb, 2, none⟩ = some (.bool f3) := HYw10.out.cell 2
 have y3 : w10.cell? ⟨yb, 3, none⟩ = some (.int .i64 x3) := HYw10.out.cell 3
 have y4 : w10.cell? ⟨yb, 4, none⟩ = some (.int .i64 r3) := HYw10.out.cell 4
 have y5 : w10.cell? ⟨yb, 5, none⟩ = some (.slice a3 its3.length c3) := HYw10.out.cell 5
 have y6 : w10.cell? ⟨yb, 6, none⟩ = some (.slice b3 ts3.length d3) := HYw10.out.cell 6
 have y7 : w10.cell? ⟨yb, 7, none⟩ = some (.slice e3 qs3.length g3) := HYw10.out.cell 7
 have z0 : w10.cell? ⟨gb, 0, none⟩ = some (.string n3) := HGw10.out.cell 0
 have z1 : w10.cell? ⟨gb, 1, none⟩ = some (.int .i64 t3) := HGw10.out.cell 1
 have z2 : w10.cell? ⟨gb, 2, none⟩ = some (.bool f3) := HGw10.out.cell 2
 have z3 : w10.cell? ⟨gb, 3, none⟩ = some (.int .i64 x3) := HGw10.out.cell 3
 have z4 : w10.cell? ⟨gb, 4, none⟩ = some (.int .i64 r3) := HGw10.out.cell 4
 have z5 : w10.cell? ⟨gb, 5, none⟩ = some (.slice a5 its3.length c5) := HGw10.out.cell 5
 have z6 : w10.cell? ⟨gb, 6, none⟩ = some (.slice b5 ts3.length d5) := HGw10.out.cell 6
 have z7 : w10.cell? ⟨gb, 7, none⟩ = some (.slice e5 qs5.length g5) := HGw10.out.cell 7
 clear hK hne v0 v1 v2 v3 v4 v5 v6 v7 htq4
 generalize totQ qs4 = tq4 at *
 go_wp2_with fail
 refine HEQ10.out.mono ?_
 rintro e w11 ⟨rfl, hb11⟩
 have HXw11 := hid (HXw10.out.below hb11)
 have HMw11 := hid (HMw10.out.below hb11)
 have HBWw11 := hid (HBWw10.out.trans (hb11.mono HBWw10.out.size))
 have HYw11 := hid (HYw10.out.below hb11)
 have HTw11 := hid (HTw10.out.below hb11)
 have HGw11 := hid (HGw10.out.below hb11)
 have HUw11 := hid (HUw10.out.below hb11)
 have hs_w11 := hb11.size
 obtain ⟨tq, htq⟩ : ∃ x, x = totP (qs3.map Prod.fst) := ⟨_, rfl⟩
 have htq5 : totQ qs5 = tq := by rw [htq, HQ35.out]; rfl
 have HMK2 := hid (markFetch_any n3 t3 f3 x3 r3 _ _ _ _ its3 ts3 qs5 w11 HUw11.out (by omega))
 rw [htq5] at HMK2
 have HTQ := hid htq
 have htql : tq ≤ 1900 := by omega
 clear hb11 hkn y0 y1 y2 y3 y4 y5 y6 y7 z0 z1 z2 z3 z4 z5 z6 z7 htq htq5
 have z0 : w11.cell? ⟨gb, 0, none⟩ = some (.string n3) := HGw11.out.cell 0
 have z1 : w11.cell? ⟨gb, 1, none⟩ = some (.int .i64 t3) := HGw11.out.cell 1
 have z2 : w11.cell? ⟨gb, 2, none⟩ = some (.bool f3) := HGw11.out.cell 2
 have z3 : w11.cell? ⟨gb, 3, none⟩ = some (.int .i64 x3) := HGw11.out.cell 3
 have z4 : w11.cell? ⟨gb, 4, none⟩ = some (.int .i64 r3) := HGw11.out.cell 4
 have z5 : w11.cell? ⟨gb, 5, none⟩ = some (.slice a5 its3.length c5) := HGw11.out.cell 5
 have z6 : w11.cell? ⟨gb, 6, none⟩ = some (.slice b5 ts3.length d5) := HGw11.out.cell 6
 have z7 : w11.cell? ⟨gb, 7, none⟩ = some (.slice e5 qs5.length g5) := HGw11.out.cell 7
 go_wp2_with fail
 refine HMK2.out.mono ?_
 rintro e w12 ⟨rfl, hmk, hK⟩
 have hsK2 := hK.size
 have hlo : ∀ b, b < w5.heap.size → ¬ FBlk (.slice a5 its3.length c5) (.slice b5 ts3.length d5) (.slice e5 qs5.length g5) qs5 b := fun b hb h => by have h1 := HL5.out b h; omega
 have HBWw12 := hid (HBWw11.out.trans (hK.below (B := w.heap.size) (fun g hg => by have := HL5.out g hg; omega) (by omega)))
 have HXw12 : Hid (Blk w12 w.heap.size 28 (fcells nm now full wd room (.slice ai its.length ci) (.slice ap ts.length cp) (.slice aq ps.length cq))) := hid ((hK.block _ HXw11.out.lt (hlo _ (by omega))).trans HXw11.out)
 have HMw12 : Hid (Blk w12 (w.heap.size + 1) 46 #[.int .i64 fr, .int .i64 tg, .string sum, .bool has, .string text]) := hid ((hK.block _ HMw11.out.lt (hlo _ (by omega))).trans HMw11.out)
 have HYw12 : Hid (Blk w12 yb 35 (fcells n3 t3 f3 x3 r3 (.slice a3 its3.length c3) (.slice b3 ts3.length d3) (.slice e3 qs3.length g3))) := hid ((hK.block _ HYw11.out.lt (hlo _ (by omega))).trans HYw11.out)
 have HGw12 : Hid (Blk w12 gb 35 (fcells n3 t3 f3 x3 r3 (.slice a5 its3.length c5) (.slice b5 ts3.length d5) (.slice e5 qs5.length g5))) := hid ((hK.block _ HGw11.out.lt (fun h => HNG.out _ h rfl)).trans HGw11.out)
 have HTw12 := hid (HTw11.out.same (w' := w12) (fun b hb => hK.block b (HTw11.out.lt b hb).2 (hlo b (by have := (HL3.out b hb).2; omega))))
 have HRD := hid hmk.store.rdi
 have HPD := hid (Reads.of_row hmk.store.pins)
 have hqd := hmk.peers.rdp
 rw [marksQ_fst, ← HQ35.out] at hqd
 have HQD := hid hqd
 have HHD := hid fun W (h1 : RdI W _ _) (h2 : Reads W _ _) (h3 : RdP W _ _) => heldFetch_any n3 t3 f3 x3 r3 (.slice a5 its3.length c5) (.slice b5 ts3.length d5) (.slice e5 qs5.length g5) its3.length ts3.length (qs3.map Prod.fst) W h1 h2 h3 (by have := HTQ.out; omega)
 rw [← HTQ.out] at HHD
 have HHD1 := hid (HHD.out w12 HRD.out HPD.out HQD.out)
 clear hmk hqd hK hlo z0 z1 z2 z3 z4 z5 z6 z7
 have z0 : w12.cell? ⟨gb, 0, none⟩ = some (.string n3) := HGw12.out.cell 0
 have z1 : w12.cell? ⟨gb, 1, none⟩ = some (.int .i64 t3) := HGw12.out.cell 1
 have z2 : w12.cell? ⟨gb, 2, none⟩ = some (.bool f3) := HGw12.out.cell 2
 have z3 : w12.cell? ⟨gb, 3, none⟩ = some (.int .i64 x3) := HGw12.out.cell 3
 have z4 : w12.cell? ⟨gb, 4, none⟩ = some (.int .i64 r3) := HGw12.out.cell 4
 have z5 : w12.cell? ⟨gb, 5, none⟩ = some (.slice a5 its3.length c5) := HGw12.out.cell 5
 have z6 : w12.cell? ⟨gb, 6, none⟩ = some (.slice b5 ts3.length d5) := HGw12.out.cell 6
 have z7 : w12.cell? ⟨gb, 7, none⟩ = some (.slice e5 qs5.length g5) := HGw12.out.cell 7
 go_wp2_with fail
 refine HHD1.out.mono ?_
 rintro e w13 ⟨rfl, hb13⟩
 have HXw13 := hid (HXw12.out.below hb13)
 have HMw13 := hid (HMw12.out.below hb13)
 have HBWw13 := hid (HBWw12.out.trans (hb13.mono HBWw12.out.size))
 have HYw13 := hid (HYw12.out.below hb13)
 have HTw13 := hid (HTw12.out.below hb13)
 have HGw13 := hid (HGw12.out.below hb13)
 have hs_w13 := hb13.size
 have HJ13 := hid hb13
 have hnn : ¬ (((1 + 2 * its3.length + ts3.length + tq : Nat) : Int) < 0) := by omega
 clear hb13 z0 z1 z2 z3 z4 z5 z6 z7
 have HSFw13 := hid fun (W : World) (h : Below w13.heap.size w13 W) => (show W.cell? ⟨w.heap.size, 0, none⟩ = some (.string nm) ∧ W.cell? ⟨w.heap.size, 1, none⟩ = some (.int .i64 now) ∧ W.cell? ⟨w.heap.size, 2, none⟩ = some (.bool full) ∧ W.cell? ⟨w.heap.size, 3, none⟩ = some (.int .i64 wd) ∧ W.cell? ⟨w.heap.size, 4, none⟩ = some (.int .i64 room) ∧ W.cell? ⟨w.heap.size, 5, none⟩ = some (.slice ai its.length ci) ∧ W.cell? ⟨w.heap.size, 6, none⟩ = some (.slice ap ts.length cp) ∧ W.cell? ⟨w.heap.size, 7, none⟩ = some (.slice aq ps.length cq) ∧ W.cell? ⟨w.heap.size + 1, 0, none⟩ = some (.int .i64 fr) ∧ W.cell? ⟨w.heap.size + 1, 1, none⟩ = some (.int .i64 tg) ∧ W.cell? ⟨w.heap.size + 1, 2, none⟩ = some (.string sum) ∧ W.cell? ⟨w.heap.size + 1, 3, none⟩ = some (.bool has) ∧ W.cell? ⟨w.heap.size + 1, 4, none⟩ = some (.string text) from by
  have X := HXw13.out.below h
  have Y := HMw13.out.below h
  exact ⟨X.cell 0, X.cell 1, X.cell 2, X.cell 3, X.cell 4, X.cell 5, X.cell 6, X.cell 7, Y.cell 0, Y.cell 1, Y.cell 2, Y.cell 3, Y.cell 4⟩)
 have hbd : Below w13.heap.size w13 w13.drew := below_drewN (Below.refl _ _) 1
 have hS0 := HSFw13.out w13.drew hbd
 go_upto_region 27 with fail
 go_cut [12] from 65 to 69 (fun s wx => TakeB nm now full wd room its ts ps fr tg sum has text w13 s wx)
 case first =>
  refine wp_region_held (S := fun w' => w'.cell? ⟨w.heap.size, 0, none⟩ = some (.string nm) ∧ w'.cell? ⟨w.heap.size, 1, none⟩ = some (.int .i64 now) ∧ w'.cell? ⟨w.heap.size, 2, none⟩ = some (.bool full) ∧ w'.cell? ⟨w.heap.size, 3, none⟩ = some (.int .i64 wd) ∧ w'.cell? ⟨w.heap.size, 4, none⟩ = some (.int .i64 room) ∧ w'.cell? ⟨w.heap.size, 5, none⟩ = some (.slice ai its.length ci) ∧ w'.cell? ⟨w.heap.size, 6, none⟩ = some (.slice ap ts.length cp) ∧ w'.cell? ⟨w.heap.size, 7, none⟩ = some (.slice aq ps.length cq) ∧ w'.cell? ⟨w.heap.size + 1, 0, none⟩ = some (.int .i64 fr) ∧ w'.cell? ⟨w.heap.size + 1, 1, none⟩ = some (.int .i64 tg) ∧ w'.cell? ⟨w.heap.size + 1, 2, none⟩ = some (.string sum) ∧ w'.cell? ⟨w.heap.size + 1, 3, none⟩ = some (.bool has) ∧ w'.cell? ⟨w.heap.size + 1, 4, none⟩ = some (.string text)) (by kernel_rfl) ?_
  change wpAnyH _ _ _ _ _ _ _ _ (World.drew _)
  refine tkA 0 (.agg #[.string nm, .int .i64 now, .bool full, .int .i64 wd, .int .i64 room, .slice ai its.length ci, .slice ap ts.length cp, .slice aq ps.length cq]) rfl hS0 ?_
  refine tkA 2 (.agg #[.int .i64 fr, .int .i64 tg, .string sum, .bool has, .string text]) rfl hS0 ?_
  refine held_two 1 5 (by kernel_rfl) ?A6 ?B6
  case A6 =>
   refine op_calls (f := 7) (args := #[fval nm now full wd room (.slice ai its.length ci) (.slice ap ts.length cp) (.slice aq ps.length cq)]) rfl rfl (by go_simp) (HT.out _ (HI.out.below (HBWw13.out.trans (hbd.mono HBWw13.out.size))) (HP.out.below (HBWw13.out.trans (hbd.mono HBWw13.out.size))) (HQ.out.below (HBWw13.out.trans (hbd.mono HBWw13.out.size)))) ?_
   rintro e wA ⟨iA, pA, qA, qsA, rfl, hqsA, foA, _, hbA⟩
   have BA := hbd.trans (hbA.mono hbd.size)
   have hSA := HSFw13.out wA BA
   refine ⟨_, rfl, hSA, ?_⟩
   refine held_two 3 5 (by kernel_rfl) ?A7 ?B7
   case A7 =>
    refine op_calls (f := 17) (args := #[.agg #[.int .i64 fr, .int .i64 tg, .string sum, .bool has, .string text]]) rfl rfl (by go_simp) (HTM.out _) ?_
    rintro e wB ⟨rfl, hbB⟩
    have BB := BA.trans (hbB.mono BA.size)
    have foB := foA.below hbB
    have hSB := HSFw13.out wB BB
    refine ⟨_, rfl, hSB, ?_⟩
    refine held_two 4 5 (by kernel_rfl) ?A8 ?B8
    case A8 =>
     refine op_calls (f := 18) (args := #[fval nm now full wd room iA pA qA, .agg #[.int .i64 fr, .int .i64 tg, .string sum, .bool has, .string text]]) rfl rfl (by go_simp) (HM.out _ _ _ _ foB.store.rdi (Reads.of_row foB.store.pins) (by have h := foB.peers.rdp; rw [hqsA] at h; exact h) (HER.out.below (HBWw13.out.trans (BB.mono HBWw13.out.size)))) ?_
     rintro e wC hC
     obtain ⟨n3, t3, f3, x3, r3, its3, ts3, qs3, vi3, vp3, vq3, rfl, hres, fo3, hbC⟩ := hC
     obtain ⟨a3, c3, rfl⟩ := row_any fo3.store.items
     obtain ⟨b3, d3, rfl⟩ := row_any fo3.store.pins
     obtain ⟨e3, g3, rfl⟩ := row_any fo3.peers.row
     have BC := BB.trans (hbC.mono BB.size)
     have hzc := BB.size
     have HRES := hid hres
     have hSC := HSFw13.out wC BC
     refine ⟨_, rfl, hSC, ?_⟩
     have B1 := BC.alloc BC.size (.cells fzero 35)
     have hS1 := HSFw13.out _ B1
     have B2 := BC.alloc BC.size (.cells (fcells n3 t3 f3 x3 r3 (.slice a3 its3.length c3) (.slice b3 ts3.length d3) (.slice e3 qs3.length g3)) 35)
     have hS2 := HSFw13.out _ B2
     have HB2 := hid B2
     have HFO := hid ((fo3.below ((Below.refl _ _).alloc (Nat.le_refl _) (.cells (fcells n3 t3 f3 x3 r3 (.slice a3 its3.length c3) (.slice b3 ts3.length d3) (.slice e3 qs3.length g3)) 35))).base (show w13.heap.size ≤ _ by omega))
     have hle := BC.size
     refine held_one 5 (by kernel_rfl) (op_value (v := .pointer (some ⟨wC.heap.size, 0, none⟩)) (w' := wC.alloc (.cells fzero 35)) rfl rfl (by go_simp) ⟨hS1, ?_⟩)
     refine held_one 6 (by kernel_rfl) (op_skip (w' := wC.alloc (.cells (fcells n3 t3 f3 x3 r3 (.slice a3 its3.length c3) (.slice b3 ts3.length d3) (.slice e3 qs3.length g3)) 35)) rfl rfl (by go_simp) ⟨hS2, wpAnyH_done (by kernel_rfl) ?_ _⟩)
     clear hS1 hS2 B1 B2 fo3 hbC BC
     clear hS0 hSC
     go_simp
     go_wp2_with fail
     go_meet
     unfold TakeB
     exact ⟨wC.heap.size, n3, t3, f3, x3, r3, its3, ts3, qs3, _, _, _, rfl, Blk.new wC 35 _, HRES.out, HFO.out, hle, HB2.out⟩
    case B8 =>
     have BZ := BB.alloc BB.size (.cells fzero 35)
     have hSZ := HSFw13.out _ BZ
     have NB := Blk.new wB 35 fzero
     have hal := BB.size
     have foZ := foB.below ((Below.refl _ _).alloc (Nat.le_refl _) (.cells fzero 35))
     refine op_value (v := .pointer (some ⟨wB.heap.size, 0, none⟩)) (w' := (wB.alloc (.cells fzero 35))) rfl rfl (by go_simp) ⟨hSZ, ?_⟩
     refine held_one 4 (by kernel_rfl) (op_calls (f := 18) (args := #[fval nm now full wd room iA pA qA, .agg #[.int .i64 fr, .int .i64 tg, .string sum, .bool has, .string text]]) rfl rfl (by go_simp) (HM.out _ _ _ _ foZ.store.rdi (Reads.of_row foZ.store.pins) (by have h := foZ.peers.rdp; rw [hqsA] at h; exact h) (HER.out.below (HBWw13.out.trans (BZ.mono HBWw13.out.size)))) ?_)
     rintro e wC hC
     obtain ⟨n3, t3, f3, x3, r3, its3, ts3, qs3, vi3, vp3, vq3, rfl, hres, fo3, hbC⟩ := hC
     obtain ⟨a3, c3, rfl⟩ := row_any fo3.store.items
     obtain ⟨b3, d3, rfl⟩ := row_any fo3.store.pins
     obtain ⟨e3, g3, rfl⟩ := row_any fo3.peers.row
     have BC := BZ.trans (hbC.mono BZ.size)
     have hzc := BZ.size
     have HRES := hid hres
     have hnl := NB.lt
     have NB : Blk wC _ 35 fzero := (hbC.block _ NB.lt).trans NB
     have hSC := HSFw13.out wC BC
     refine ⟨_, rfl, hSC, ?_⟩
     have s := NB.store8 (.string n3) (.int .i64 t3) (.bool f3) (.int .i64 x3) (.int .i64 r3) (.slice a3 its3.length c3) (.slice b3 ts3.length d3) (.slice e3 qs3.length g3)
     obtain ⟨q0, k0, q1, k1, q2, k2, q3, k3, q4, k4, q5, k5, q6, k6, q7, k7⟩ := s
     have HZ := hid (NB.set8 (.string n3) (.int .i64 t3) (.bool f3) (.int .i64 x3) (.int .i64 r3) (.slice a3 its3.length c3) (.slice b3 ts3.length d3) (.slice e3 qs3.length g3))
     have hle : w13.heap.size ≤ wB.heap.size := by omega
     have B2 := below_set8 BC (b := wB.heap.size) hle (Nat.le_refl _) (.string n3) (.int .i64 t3) (.bool f3) (.int .i64 x3) (.int .i64 r3) (.slice a3 its3.length c3) (.slice b3 ts3.length d3) (.slice e3 qs3.length g3)
     have hS2 := HSFw13.out _ B2
     have HB2 := hid B2
     have HFO := hid ((fo3.kept (grown_set8 wC (wB.heap.size) (.string n3) (.int .i64 t3) (.bool f3) (.int .i64 x3) (.int .i64 r3) (.slice a3 its3.length c3) (.slice b3 ts3.length d3) (.slice e3 qs3.length g3)) (by omega)).base (show w13.heap.size ≤ _ by omega))
     refine held_one 6 (by kernel_rfl) (op_skip (w' := set8 wC (wB.heap.size) (.string n3) (.int .i64 t3) (.bool f3) (.int .i64 x3) (.int .i64 r3) (.slice a3 its3.length c3) (.slice b3 ts3.length d3) (.slice e3 qs3.length g3)) rfl rfl (by unfold set8; go_simp) ⟨hS2, wpAnyH_done (by kernel_rfl) ?_ _⟩)
     clear hS2 B2 fo3 hbC BC NB q0 q1 q2 q3 q4 q5 q6 q7 k0 k1 k2 k3 k4 k5 k6 k7
     clear hS0 hSC
     go_simp
     go_wp2_with fail
     go_meet
     unfold TakeB
     exact ⟨wB.heap.size, n3, t3, f3, x3, r3, its3, ts3, qs3, _, _, _, rfl, HZ.out, HRES.out, HFO.out, hle, HB2.out⟩
   case B7 =>
    have BZ := BA.alloc BA.size (.cells fzero 35)
    have hSZ := HSFw13.out _ BZ
    have NB := Blk.new wA 35 fzero
    have hal := BA.size
    have foZ := foA.below ((Below.refl _ _).alloc (Nat.le_refl _) (.cells fzero 35))
    refine op_value (v := .pointer (some ⟨wA.heap.size, 0, none⟩)) (w' := (wA.alloc (.cells fzero 35))) rfl rfl (by go_simp) ⟨hSZ, ?_⟩
    refine held_one 3 (by kernel_rfl) (op_calls (f := 17) (args := #[.agg #[.int .i64 fr, .int .i64 tg, .string sum, .bool has, .string text]]) rfl rfl (by go_simp) (HTM.out _) ?_)
    rintro e wB ⟨rfl, hbB⟩
    have BB := BZ.trans (hbB.mono BZ.size)
    have NB : Blk wB _ 35 fzero := (hbB.block _ NB.lt).trans NB
    have foB := foZ.below hbB
    have hSB := HSFw13.out wB BB
    refine ⟨_, rfl, hSB, ?_⟩
    refine held_one 4 (by kernel_rfl) (op_calls (f := 18) (args := #[fval nm now full wd room iA pA qA, .agg #[.int .i64 fr, .int .i64 tg, .string sum, .bool has, .string text]]) rfl rfl (by go_simp) (HM.out _ _ _ _ foB.store.rdi (Reads.of_row foB.store.pins) (by have h := foB.peers.rdp; rw [hqsA] at h; exact h) (HER.out.below (HBWw13.out.trans (BB.mono HBWw13.out.size)))) ?_)
    rintro e wC hC
    obtain ⟨n3, t3, f3, x3, r3, its3, ts3, qs3, vi3, vp3, vq3, rfl, hres, fo3, hbC⟩ := hC
    obtain ⟨a3, c3, rfl⟩ := row_any fo3.store.items
    obtain ⟨b3, d3, rfl⟩ := row_any fo3.store.pins
    obtain ⟨e3, g3, rfl⟩ := row_any fo3.peers.row
    have BC := BB.trans (hbC.mono BB.size)
    have hzc := BB.size
    have HRES := hid hres
    have hnl := NB.lt
    have NB : Blk wC _ 35 fzero := (hbC.block _ NB.lt).trans NB
    have hSC := HSFw13.out wC BC
    refine ⟨_, rfl, hSC, ?_⟩
    have s := NB.store8 (.string n3) (.int .i64 t3) (.bool f3) (.int .i64 x3) (.int .i64 r3) (.slice a3 its3.length c3) (.slice b3 ts3.length d3) (.slice e3 qs3.length g3)
    obtain ⟨q0, k0, q1, k1, q2, k2, q3, k3, q4, k4, q5, k5, q6, k6, q7, k7⟩ := s
    have HZ := hid (NB.set8 (.string n3) (.int .i64 t3) (.bool f3) (.int .i64 x3) (.int .i64 r3) (.slice a3 its3.length c3) (.slice b3 ts3.length d3) (.slice e3 qs3.length g3))
    have hle : w13.heap.size ≤ wA.heap.size := by omega
    have B2 := below_set8 BC (b := wA.heap.size) hle (Nat.le_refl _) (.string n3) (.int .i64 t3) (.bool f3) (.int .i64 x3) (.int .i64 r3) (.slice a3 its3.length c3) (.slice b3 ts3.length d3) (.slice e3 qs3.length g3)
    have hS2 := HSFw13.out _ B2
    have HB2 := hid B2
    have HFO := hid ((fo3.kept (grown_set8 wC (wA.heap.size) (.string n3) (.int .i64 t3) (.bool f3) (.int .i64 x3) (.int .i64 r3) (.slice a3 its3.length c3) (.slice b3 ts3.length d3) (.slice e3 qs3.length g3)) (by omega)).base (show w13.heap.size ≤ _ by omega))
    refine held_one 6 (by kernel_rfl) (op_skip (w' := set8 wC (wA.heap.size) (.string n3) (.int .i64 t3) (.bool f3) (.int .i64 x3) (.int .i64 r3) (.slice a3 its3.length c3) (.slice b3 ts3.length d3) (.slice e3 qs3.length g3)) rfl rfl (by unfold set8; go_simp) ⟨hS2, wpAnyH_done (by kernel_rfl) ?_ _⟩)
    clear hS2 B2 fo3 hbC BC NB q0 q1 q2 q3 q4 q5 q6 q7 k0 k1 k2 k3 k4 k5 k6 k7
    clear hS0 hSC
    go_simp
    go_wp2_with fail
    go_meet
    unfold TakeB
    exact ⟨wA.heap.size, n3, t3, f3, x3, r3, its3, ts3, qs3, _, _, _, rfl, HZ.out, HRES.out, HFO.out, hle, HB2.out⟩
  case B6 =>
   have BZ : Below w13.heap.size w13 (w13.alloc (.cells fzero 35)).drew := below_drewN ((Below.refl w13.heap.size w13).alloc (Nat.le_refl _) (.cells fzero 35)) 1
   have hSZ := HSFw13.out _ BZ
   have NB : Blk (w13.alloc (.cells fzero 35)).drew w13.heap.size 35 fzero := Blk.new w13 35 fzero
   have hal : w13.heap.size ≤ w13.heap.size := Nat.le_refl _
   refine op_value (v := .pointer (some ⟨w13.heap.size, 0, none⟩)) (w' := (w13.alloc (.cells fzero 35)).drew) rfl rfl (by go_simp) ⟨hSZ, ?_⟩
   refine held_one 1 (by kernel_rfl) (op_calls (f := 7) (args := #[fval nm now full wd room (.slice ai its.length ci) (.slice ap ts.length cp) (.slice aq ps.length cq)]) rfl rfl (by go_simp) (HT.out _ (HI.out.below (HBWw13.out.trans (BZ.mono HBWw13.out.size))) (HP.out.below (HBWw13.out.trans (BZ.mono HBWw13.out.size))) (HQ.out.below (HBWw13.out.trans (BZ.mono HBWw13.out.size)))) ?_)
   rintro e wA ⟨iA, pA, qA, qsA, rfl, hqsA, foA, _, hbA⟩
   have BA := BZ.trans (hbA.mono BZ.size)
   have NB : Blk wA _ 35 fzero := (hbA.block _ NB.lt).trans NB
   have hSA := HSFw13.out wA BA
   refine ⟨_, rfl, hSA, ?_⟩
   refine held_one 3 (by kernel_rfl) (op_calls (f := 17) (args := #[.agg #[.int .i64 fr, .int .i64 tg, .string sum, .bool has, .string text]]) rfl rfl (by go_simp) (HTM.out _) ?_)
   rintro e wB ⟨rfl, hbB⟩
   have BB := BA.trans (hbB.mono BA.size)
   have NB : Blk wB _ 35 fzero := (hbB.block _ NB.lt).trans NB
   have foB := foA.below hbB
   have hSB := HSFw13.out wB BB
   refine ⟨_, rfl, hSB, ?_⟩
   refine held_one 4 (by kernel_rfl) (op_calls (f := 18) (args := #[fval nm now full wd room iA pA qA, .agg #[.int .i64 fr, .int .i64 tg, .string sum, .bool has, .string text]]) rfl rfl (by go_simp) (HM.out _ _ _ _ foB.store.rdi (Reads.of_row foB.store.pins) (by have h := foB.peers.rdp; rw [hqsA] at h; exact h) (HER.out.below (HBWw13.out.trans (BB.mono HBWw13.out.size)))) ?_)
   rintro e wC hC
   obtain ⟨n3, t3, f3, x3, r3, its3, ts3, qs3, vi3, vp3, vq3, rfl, hres, fo3, hbC⟩ := hC
   obtain ⟨a3, c3, rfl⟩ := row_any fo3.store.items
   obtain ⟨b3, d3, rfl⟩ := row_any fo3.store.pins
   obtain ⟨e3, g3, rfl⟩ := row_any fo3.peers.row
   have BC := BB.trans (hbC.mono BB.size)
   have hzc := BB.size
   have HRES := hid hres
   have hnl := NB.lt
   have NB : Blk wC _ 35 fzero := (hbC.block _ NB.lt).trans NB
   have hSC := HSFw13.out wC BC
   refine ⟨_, rfl, hSC, ?_⟩
   have s := NB.store8 (.string n3) (.int .i64 t3) (.bool f3) (.int .i64 x3) (.int .i64 r3) (.slice a3 its3.length c3) (.slice b3 ts3.length d3) (.slice e3 qs3.length g3)
   obtain ⟨q0, k0, q1, k1, q2, k2, q3, k3, q4, k4, q5, k5, q6, k6, q7, k7⟩ := s
   have HZ := hid (NB.set8 (.string n3) (.int .i64 t3) (.bool f3) (.int .i64 x3) (.int .i64 r3) (.slice a3 its3.length c3) (.slice b3 ts3.length d3) (.slice e3 qs3.length g3))
   have hle : w13.heap.size ≤ w13.heap.size := by omega
   have B2 := below_set8 BC (b := w13.heap.size) hle (Nat.le_refl _) (.string n3) (.int .i64 t3) (.bool f3) (.int .i64 x3) (.int .i64 r3) (.slice a3 its3.length c3) (.slice b3 ts3.length d3) (.slice e3 qs3.length g3)
   have hS2 := HSFw13.out _ B2
   have HB2 := hid B2
   have HFO := hid ((fo3.kept (grown_set8 wC (w13.heap.size) (.string n3) (.int .i64 t3) (.bool f3) (.int .i64 x3) (.int .i64 r3) (.slice a3 its3.length c3) (.slice b3 ts3.length d3) (.slice e3 qs3.length g3)) (by omega)).base (show w13.heap.size ≤ _ by omega))
   refine held_one 6 (by kernel_rfl) (op_skip (w' := set8 wC (w13.heap.size) (.string n3) (.int .i64 t3) (.bool f3) (.int .i64 x3) (.int .i64 r3) (.slice a3 its3.length c3) (.slice b3 ts3.length d3) (.slice e3 qs3.length g3)) rfl rfl (by unfold set8; go_simp) ⟨hS2, wpAnyH_done (by kernel_rfl) ?_ _⟩)
   clear hS2 B2 fo3 hbC BC NB q0 q1 q2 q3 q4 q5 q6 q7 k0 k1 k2 k3 k4 k5 k6 k7
   clear hS0 hSC
   go_simp
   go_wp2_with fail
   go_meet
   unfold TakeB
   exact ⟨w13.heap.size, n3, t3, f3, x3, r3, its3, ts3, qs3, _, _, _, rfl, HZ.out, HRES.out, HFO.out, hle, HB2.out⟩
 case rest =>
 obtain ⟨w14, hw14⟩ : ∃ x, x = wc := ⟨_, rfl⟩
 subst hw14
 unfold TakeB at hcut
 obtain ⟨hb', n9, t9, f9, x9, r9, its9, ts9, qs9, vi9, vp9, vq9, rfl, hH, hres9, fo9, hhb, hb14⟩ := hcut
 obtain ⟨e1', e2', e3', e4', e5', e6', e7', hq39⟩ := take_same HRES.out hres9
 subst e1' e2' e3' e4' e5' e6' e7'
 obtain ⟨a9, c9, rfl⟩ := row_any fo9.store.items
 obtain ⟨b9, d9, rfl⟩ := row_any fo9.store.pins
 obtain ⟨e9, g9, rfl⟩ := row_any fo9.peers.row
 have r9 := fo9.peers.rdp
 rw [← hq39] at r9
 have HBWw14 := hid (HBWw13.out.trans (hb14.mono HBWw13.out.size))
 have HYw14 := hid (HYw13.out.below hb14)
 have HTw14 := hid (HTw13.out.below hb14)
 have HGw14 := hid (HGw13.out.below hb14)
 have hs_w14 := hb14.size
 have HJ14 := hid (HJ13.out.trans (hb14.mono HJ13.out.size))
 have HEQ14 := hid (HE3.out _ _ _ _ _ _ w14 fo9.store.rdi (Reads.of_row fo9.store.pins) r9 HTw14.out.store.rdi (Reads.of_row HTw14.out.store.pins) HTw14.out.peers.rdp)
 have y0 : w14.cell? ⟨yb, 0, none⟩ = some (.string n3) := HYw14.out.cell 0
 have y1 : w14.cell? ⟨yb, 1, none⟩ = some (.int .i64 t3) := HYw14.out.cell 1
 have y2 : w14.cell? ⟨yb, 2, none⟩ = some (.bool f3) := HYw14.out.cell 2
 have y3 : w14.cell? ⟨yb, 3, none⟩ = some (.int .i64 x3) := HYw14.out.cell 3
 have y4 : w14.cell? ⟨yb, 4, none⟩ = some (.int .i64 r3) := HYw14.out.cell 4
 have y5 : w14.cell? ⟨yb, 5, none⟩ = some (.slice a3 its3.length c3) := HYw14.out.cell 5
 have y6 : w14.cell? ⟨yb, 6, none⟩ = some (.slice b3 ts3.length d3) := HYw14.out.cell 6
 have y7 : w14.cell? ⟨yb, 7, none⟩ = some (.slice e3 qs3.length g3) := HYw14.out.cell 7
 have z0 : w14.cell? ⟨hb', 0, none⟩ = some (.string n3) := hH.cell 0
 have z1 : w14.cell? ⟨hb', 1, none⟩ = some (.int .i64 t3) := hH.cell 1
 have z2 : w14.cell? ⟨hb', 2, none⟩ = some (.bool f3) := hH.cell 2
 have z3 : w14.cell? ⟨hb', 3, none⟩ = some (.int .i64 x3) := hH.cell 3
 have z4 : w14.cell? ⟨hb', 4, none⟩ = some (.int .i64 r3) := hH.cell 4
 have z5 : w14.cell? ⟨hb', 5, none⟩ = some (.slice a9 its3.length c9) := hH.cell 5
 have z6 : w14.cell? ⟨hb', 6, none⟩ = some (.slice b9 ts3.length d9) := hH.cell 6
 have z7 : w14.cell? ⟨hb', 7, none⟩ = some (.slice e9 qs9.length g9) := hH.cell 7
 clear hres9 fo9 hb14 r9 hq39 hS0 hbd
 go_wp2_with fail
 refine HEQ14.out.mono ?_
 rintro e w15 ⟨rfl, hb15⟩
 have HBWw15 := hid (HBWw14.out.trans (hb15.mono HBWw14.out.size))
 have HGw15 := hid (HGw14.out.below hb15)
 have hs_w15 := hb15.size
 have J15 := HJ14.out.trans (hb15.mono HJ14.out.size)
 have HHD2 := hid (HHD.out w15 (HRD.out.below J15) (HPD.out.below J15) (HQD.out.below J15))
 clear hb15 J15 y0 y1 y2 y3 y4 y5 y6 y7 z0 z1 z2 z3 z4 z5 z6 z7 hH
 have z0 : w15.cell? ⟨gb, 0, none⟩ = some (.string n3) := HGw15.out.cell 0
 have z1 : w15.cell? ⟨gb, 1, none⟩ = some (.int .i64 t3) := HGw15.out.cell 1
 have z2 : w15.cell? ⟨gb, 2, none⟩ = some (.bool f3) := HGw15.out.cell 2
 have z3 : w15.cell? ⟨gb, 3, none⟩ = some (.int .i64 x3) := HGw15.out.cell 3
 have z4 : w15.cell? ⟨gb, 4, none⟩ = some (.int .i64 r3) := HGw15.out.cell 4
 have z5 : w15.cell? ⟨gb, 5, none⟩ = some (.slice a5 its3.length c5) := HGw15.out.cell 5
 have z6 : w15.cell? ⟨gb, 6, none⟩ = some (.slice b5 ts3.length d5) := HGw15.out.cell 6
 have z7 : w15.cell? ⟨gb, 7, none⟩ = some (.slice e5 qs5.length g5) := HGw15.out.cell 7
 go_wp2_with fail
 refine HHD2.out.mono ?_
 rintro e w16 ⟨rfl, hb16⟩
 have HB16 := hid (HBWw15.out.trans (hb16.mono HBWw15.out.size))
 clear hb16 z0 z1 z2 z3 z4 z5 z6 z7
 go_wp2
 go_ret
 exact ⟨by simp, HB16.out⟩
end Go.Proofs.YtbihndholamdfaaGreatDoor
