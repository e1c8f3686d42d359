import Derived.Test.YtlnkhbnbcmllaaaGreatStoresMark
import Derived.Test.YtlnkhbnbcmllaaaGreatWorldTo
import Derived.Test.YtlnkhbnbcmllaaaGreatPeersHeld
/- laws.heldStoreS; laws.markBoolS and laws.heldBoolS; rows of messages that are empty. -/
namespace Go.Proofs.YtlnkhbnbcmllaaaGreat
open Go.RowKit
theorem totR_take (ps : Srs) (m : Nat) (h : m < ps.length) : totR (ps.take (m + 1)) = totR (ps.take m) + onR (sat ps m) := by
  rw [List.take_succ_eq_append_getElem h, totR_append]
  simp [totR, sat, h]
theorem totR_take_le (ps : Srs) (m : Nat) : totR (ps.take m) ≤ totR ps := by
  conv => rhs; rw [← List.take_append_drop m ps]
  rw [totR_append]; omega
theorem marksR_at : ∀ (ps : Srs) (k m : Nat), m < ps.length → sat (marksR k ps) m = markR (k + totR (ps.take m)) (sat ps m)
  | [], _, _, h => absurd h (by simp)
  | p :: r, k, 0, _ => by simp [marksR, sat, totR]
  | p :: r, k, m + 1, h => by
    have ih := marksR_at r (k + onR p) m (by simpa using h)
    have e1 : sat (marksR k (p :: r)) (m + 1) = sat (marksR (k + onR p) r) m := rfl
    have e2 : sat (p :: r) (m + 1) = sat r m := rfl
    rw [e1, e2, ih, List.take_succ_cons, totR]
    congr 1
    omega
set_option maxRecDepth 100000 in
set_option maxHeartbeats 2000000 in
theorem heldStoreS_any (v : Value) (k : Nat) (ps : Srs) (w : World) (hv : RdS w v (marksR k ps)) (h1 : 1 ≤ k) (h2 : k + totR ps ≤ 4399990) :
    Calls Tryz.prog 39 #[v, .int .i64 k] w fun e w' => e = .returned (.int .i64 ((k + totR ps : Nat) : Int)) ∧ Below w.heap.size w w' := by
  obtain ⟨a, ca, rfl, hca⟩ := hv
  rw [marksR_len]
  rw [marksR_len] at hca
  have HC := hid hca
  clear hca
  go_enter Tryz.func39, Tryz.ntmps39
  go_wp2
  go_loopw [1, 5] (fun x i wr => ∃ m : Nat, m ≤ ps.length ∧ i = .int .i64 m ∧ x = .int .i64 ((k + totR (ps.take m) : Nat) : Int) ∧ Below w.heap.size w wr) (fun _ i _ => ps.length - (intOf i).toNat)
  case atStart => exact ⟨0, Nat.zero_le _, rfl, by simp [totR], Below.refl _ _⟩
  case round =>
    obtain ⟨m, hm, rfl, rfl, hb⟩ := hrel
    by_cases hlt : m < ps.length
    · obtain ⟨b, o, vi, vp, rfl, h4⟩ := HC.out m hlt
      rw [marksR_at ps k m hlt] at h4
      have g4 := h4.below hb
      have htk : totR (ps.take (m + 1)) = totR (ps.take m) + (2 + 2 * (sat ps m).its.length + (sat ps m).ts.length) := totR_take ps m hlt
      have htl := totR_take_le ps (m + 1)
      obtain ⟨j, hj⟩ : ∃ j, j = k + totR (ps.take m) := ⟨_, rfl⟩
      rw [← hj] at g4 ⊢
      have hjb : j + 2 + 2 * (sat ps m).its.length + (sat ps m).ts.length ≤ 4399990 := by omega
      have hql : ps.length ≤ 2200000 := by have := totR_ge ps; omega
      have HHI := hid fun W h => heldItemS_any vi (j + 2) (sat ps m).its.length W h (by omega) (by omega)
      have HHS := hid fun W h => heldStringS_any vp (j + 2 + 2 * (sat ps m).its.length) (sat ps m).ts.length W h (by omega) (by omega)
      obtain ⟨x0, x1, x2, x3, x4, x5, x6⟩ := g4
      obtain ⟨a2, c2, hv2, _⟩ := id x5
      obtain ⟨a3, c3, hv3, _⟩ := x6.form
      rw [show (markR j (sat ps m)).its.length = (sat ps m).its.length from marksI_len _ _] at hv2
      rw [show (markR j (sat ps m)).ts.length = (sat ps m).ts.length from marks_length _ _] at hv3
      subst hv2 hv3
      have HJ := hid hj
      have HTK := hid htk
      have HB := hid hb
      have HX5 := hid x5
      have HX6 := hid x6
      obtain ⟨j1, hj1⟩ : ∃ j1, j1 = j + 1 := ⟨_, rfl⟩
      obtain ⟨j2, hj2⟩ : ∃ j2, j2 = j + 2 := ⟨_, rfl⟩
      obtain ⟨j3, hj3⟩ : ∃ j3, j3 = j + 2 + 2 * (sat ps m).its.length := ⟨_, rfl⟩
      have hw1 : IntKind.i64.wrap ((j : Int) + 1) = (j1 : Int) := by rw [IntKind.wrap_i64]; omega
      have hw2 : IntKind.i64.wrap ((j1 : Int) + 1) = (j2 : Int) := by rw [IntKind.wrap_i64]; omega
      have hmk : markR j (sat ps m) = ⟨(j : Int), (j1 : Int), marksI j2 (sat ps m).its.length, marks j3 (sat ps m).ts.length⟩ := by rw [hj1, hj2, hj3]; rfl
      rw [hmk] at x1 x2 HX5 HX6
      dsimp only at x1 x2 HX5 HX6
      rw [← hj2] at HHI
      rw [← hj3] at HHS
      have hj3b : j2 + 2 * (sat ps m).its.length = j3 := by omega
      rw [hj3b] at HHI
      have HJ3 := hid hj3
      clear hj hj1 hj2 hj3 hj3b htk htl hb hmk h4 h1 h2 x5 x6
      generalize (sat ps m).its.length = nl at *
      generalize (sat ps m).ts.length = nt at *
      have HH1 := hid (HHI.out wr HX5.out)
      have HX0 := hid x0
      have HX4 := hid x4
      clear HHI x0 x4
      go_wp2_with fail
      refine HH1.out.mono ?_
      rintro e w1 ⟨rfl, hb1⟩
      have hnn : ¬ ((j3 : Int) < 0) := by omega
      have y4 := (hb1.cell (p := ⟨b, o + m * 4 + 3, none⟩) HX0.out).trans HX4.out
      have HB1 := hid (HB.out.trans (hb1.mono HB.out.size))
      have HH2 := hid (HHS.out w1 (HX6.out.below hb1))
      clear hb1 x1 x2 x3 HH1 HHS
      go_wp2_with fail
      refine HH2.out.mono ?_
      rintro e w2 ⟨rfl, hb2⟩
      have hnn2 : ¬ (((j3 + nt : Nat) : Int) < 0) := by omega
      have HB2 := hid (HB1.out.trans (hb2.mono HB1.out.size))
      clear hb2 y4
      go_wp2
      refine ⟨⟨m + 1, by omega, by go_num, ?_, HB2.out⟩, by simp [intOf]; omega⟩
      rw [HTK.out, HJ3.out, HJ.out]; congr 1; omega
    · obtain rfl : m = ps.length := by omega
      rw [List.take_length]
      go_wp2
      go_ret
      exact ⟨rfl, hb⟩
/-- Marks of booleans. -/
def markU (k n : Nat) : List Bool := (List.range n).map fun i => (k + i) % 3 == 0
theorem markU_len (k n : Nat) : (markU k n).length = n := by simp [markU]
theorem markU_at (k n i : Nat) (h : i < n) : (markU k n).getD i false = ((k + i) % 3 == 0) := by simp [markU, h]
def mixU (k m : Nat) (bs : List Bool) : List Bool := markU k m ++ bs.drop m
theorem mixU_len (k m : Nat) (bs : List Bool) (h : m ≤ bs.length) : (mixU k m bs).length = bs.length := by simp [mixU, markU_len]; omega
theorem mixU_succ (k m : Nat) (bs : List Bool) (h : m < bs.length) : (mixU k m bs).set m ((k + m) % 3 == 0) = mixU k (m + 1) bs := by
  unfold mixU
  rw [List.set_append_right _ _ (by rw [markU_len]; exact Nat.le_refl _), markU_len, Nat.sub_self, List.drop_eq_getElem_cons h, List.set_cons_zero]
  unfold markU
  rw [List.range_succ, List.map_append]
  simp
set_option maxRecDepth 100000 in
set_option maxHeartbeats 1000000 in
theorem markBoolS_any (v : Value) (k base : Nat) (bs : List Bool) (w : World) (hown : w.ownsRow base 4 1 v bs.length (bs.map Value.bool)) (h1 : 1 ≤ k) (h2 : k + bs.length ≤ 4400000) :
    Calls Tryz.prog 35 #[v, .int .i64 k] w fun e w' => e = .returned (.int .i64 ((k + bs.length : Nat) : Int)) ∧ w'.ownsRow base 4 1 v bs.length ((markU k bs.length).map Value.bool) ∧ w.grownBy w' v.ownBlock := by
  obtain ⟨a, cap, rfl⟩ := row_any hown
  have hform : 0 < bs.length → ∃ g, a = some ⟨g, 0, none⟩ := fun h => by
    rcases hown with ⟨_, ⟨e, h0⟩ | ⟨g, cap', cur, e, _⟩⟩
    · omega
    · cases e; exact ⟨g, rfl⟩
  have HW := hid hown
  clear hown
  go_enter Tryz.func35, Tryz.ntmps35
  go_wp2
  go_loopw [1, 5] (fun x i wr => ∃ m : Nat, m ≤ bs.length ∧ i = .int .i64 m ∧ x = .int .i64 ((k + m : Nat) : Int) ∧ wr.ownsRow base 4 1 (.slice a bs.length cap) bs.length ((mixU k m bs).map Value.bool) ∧ w.grownBy wr (Value.slice a bs.length cap).ownBlock) (fun _ i _ => bs.length - (intOf i).toNat)
  case atStart => exact ⟨0, Nat.zero_le _, rfl, rfl, by simpa [mixU, markU] using HW.out, grown_refl2 _ _⟩
  case round =>
    obtain ⟨m, hm, rfl, rfl, hr, hb⟩ := hrel
    by_cases hlt : m < bs.length
    · obtain ⟨g, rfl⟩ := hform (by omega)
      have HX := hid (mixU_succ k m bs hlt)
      have hlm := mixU_len k m bs hm
      obtain ⟨z, hz⟩ : ∃ z, (mixU k m bs)[m]? = some z := ⟨_, List.getElem?_eq_getElem (by omega)⟩
      have e1 : wr.cell? ⟨g, m, none⟩ = some (.bool z) := by rw [hr.cellAt m (by omega), List.getElem?_map, hz]; rfl
      have f1 := hr.frozenAt m
      obtain ⟨q, hq⟩ : ∃ q, q = ((k + m) % 3 == 0) := ⟨_, rfl⟩
      have hqm : ((((k + m : Nat) : Int) % 3) == 0) = q := by rw [hq, Bool.eq_iff_iff]; simp; omega
      have hr2 := hr.stored m (.bool q)
      have HR2 := hid hr2.1
      have HG2 := hid (grown_same hb hr2.2)
      rw [← hq] at HX
      obtain ⟨j, hj⟩ : ∃ j, j = k + m := ⟨_, rfl⟩
      rw [← hj] at hqm ⊢
      have HJ := hid hj
      have hj2 : j ≤ 4399999 := by omega
      clear hr hr2 hb hq hz hj
      go_wp2
      refine ⟨⟨m + 1, by omega, by go_num, by rw [HJ.out]; go_num, ?_, HG2.out⟩, by simp [intOf]; omega⟩
      rw [← HX.out, List.map_set]; exact HR2.out
    · obtain rfl : m = bs.length := by omega
      have HB := hid hb
      have HR : Hid (wr.ownsRow base 4 1 (.slice a bs.length cap) bs.length ((markU k bs.length).map Value.bool)) := hid (by simpa [mixU] using hr)
      clear hb hr
      go_wp2
      go_ret
      exact ⟨rfl, HR.out, HB.out⟩
set_option maxRecDepth 100000 in
set_option maxHeartbeats 1000000 in
theorem heldBoolS_any (v : Value) (k n : Nat) (w : World) (hv : RdB w v (markU k n)) (h1 : 1 ≤ k) (h2 : k + n ≤ 4400000) :
    Calls Tryz.prog 38 #[v, .int .i64 k] w fun e w' => e = .returned (.int .i64 ((k + n : Nat) : Int)) ∧ Below w.heap.size w w' := by
  obtain ⟨a, ca, rfl, hca⟩ := hv
  rw [markU_len]
  rw [markU_len] at hca
  have HC := hid hca
  clear hca
  go_enter Tryz.func38, Tryz.ntmps38
  go_wp2
  go_loopw [1, 5] (fun x i wr => ∃ m : Nat, m ≤ n ∧ i = .int .i64 m ∧ x = .int .i64 ((k + m : Nat) : Int) ∧ Below w.heap.size w wr) (fun _ i _ => n - (intOf i).toNat)
  case atStart => exact ⟨0, Nat.zero_le _, rfl, rfl, Below.refl _ _⟩
  case round =>
    obtain ⟨m, hm, rfl, rfl, hb⟩ := hrel
    by_cases hlt : m < n
    · obtain ⟨b, o, rfl, hbw, hc1⟩ := HC.out m hlt
      rw [markU_at k n m hlt] at hc1
      have d1 := (hb.cell (p := ⟨b, o + m, none⟩) hbw).trans hc1
      obtain ⟨q, hq⟩ : ∃ q, q = ((k + m) % 3 == 0) := ⟨_, rfl⟩
      have hqm : ((((k + m : Nat) : Int) % 3) == 0) = q := by rw [hq, Bool.eq_iff_iff]; simp; omega
      rw [← hq] at d1
      obtain ⟨j, hj⟩ : ∃ j, j = k + m := ⟨_, rfl⟩
      rw [← hj] at hqm ⊢
      have HJ := hid hj
      have hj2 : j ≤ 4399999 := by omega
      have HB := hid hb
      clear hb hc1 hj hq
      go_wp2
      exact ⟨⟨m + 1, by omega, by go_num, by rw [HJ.out]; go_num, HB.out⟩, by simp [intOf]; omega⟩
    · obtain rfl : m = n := by omega
      go_wp2
      go_ret
      exact ⟨rfl, hb⟩
set_option maxRecDepth 100000 in
theorem markMsgs_none (a : Option Addr) (cap k : Nat) (w : World) : Calls Tryz.prog 36 #[.slice a 0 cap, .int .i64 k] w fun e w' => e = .returned (.int .i64 (k : Nat)) ∧ w' = w := by
  go_enter Tryz.func36, Tryz.ntmps36
  go_wp2
  go_loopw [1, 5] (fun x i wr => x = .int .i64 (k : Nat) ∧ i = .int .i64 0 ∧ Hid (wr = w)) (fun _ _ _ => 0)
  case atStart => exact ⟨rfl, rfl, rfl⟩
  case round =>
    obtain ⟨rfl, rfl, h⟩ := hrel
    go_wp2
    go_ret
    exact ⟨rfl, h.out⟩
set_option maxRecDepth 100000 in
theorem heldMsgs_none (a : Option Addr) (cap k : Nat) (w : World) : Calls Tryz.prog 40 #[.slice a 0 cap, .int .i64 k] w fun e w' => e = .returned (.int .i64 (k : Nat)) ∧ w' = w := by
  go_enter Tryz.func40, Tryz.ntmps40
  go_wp2
  go_loopw [1, 5] (fun x i wr => x = .int .i64 (k : Nat) ∧ i = .int .i64 0 ∧ Hid (wr = w)) (fun _ _ _ => 0)
  case atStart => exact ⟨rfl, rfl, rfl⟩
  case round =>
    obtain ⟨rfl, rfl, h⟩ := hrel
    go_wp2
    go_ret
    exact ⟨rfl, h.out⟩
end Go.Proofs.YtlnkhbnbcmllaaaGreat
/- A new world in memory of its own; laws.markWorld and laws.heldWorld of it. -/
namespace Go.Proofs.YtlnkhbnbcmllaaaGreat
open Go.RowKit
/-- A world without flight, in rows of its own. -/
structure WorldOwn (w : World) (B : Nat) (vi vp vq vu vs : Value) (its : Itms) (ts : List ByteArray) (qs : PV) (bs : List Bool) (ss : SV) : Prop where
  fetch : FetchOwn w B vi vp vq its ts qs
  bools : w.ownsRow B 4 1 vu bs.length (bs.map Value.bool)
  stores : StoresOwn w B vs ss
  apart : ∀ b, FBlk vi vp vq qs b → ¬ TBlk vs ss b
theorem WorldOwn.none (w : World) (B : Nat) : WorldOwn w B (.slice .none 0 0) (.slice .none 0 0) (.slice .none 0 0) (.slice .none 0 0) (.slice .none 0 0) [] [] [] [] [] :=
  ⟨FetchOwn.none _ _, World.ownsRow_nil _ _ _ _, StoresOwn.none _ _, fun b _ h => by rcases h with h | ⟨i, h, _⟩; simp [Value.ownBlock] at h; simp at h⟩
/-- The blocks that a world lies in. -/
def WBlk (vi vp vq vu vs : Value) (qs : PV) (ss : SV) (b : Nat) : Prop := FBlk vi vp vq qs b ∨ vu.ownBlock = some b ∨ TBlk vs ss b
section
variable {w w' : World} {B B' : Nat} {vi vp vq vu vs : Value} {its : Itms} {ts : List ByteArray} {qs : PV} {bs : List Bool} {ss : SV}
theorem WorldOwn.lt (h : WorldOwn w B vi vp vq vu vs its ts qs bs ss) (b : Nat) (hb : WBlk vi vp vq vu vs qs ss b) : B ≤ b ∧ b < w.heap.size := by
  rcases hb with hb | hb | hb
  · exact h.fetch.lt b hb
  · exact h.bools.lt b hb
  · exact h.stores.lt b hb
theorem WorldOwn.same (h : WorldOwn w B vi vp vq vu vs its ts qs bs ss) (hs : ∀ b, WBlk vi vp vq vu vs qs ss b → w'.heap[b]? = w.heap[b]?) : WorldOwn w' B vi vp vq vu vs its ts qs bs ss :=
  ⟨h.fetch.same fun b hb => hs b (.inl hb), row_same h.bools fun b hb => hs b (.inr (.inl hb)), h.stores.same fun b hb => hs b (.inr (.inr hb)), h.apart⟩
theorem WorldOwn.below (h : WorldOwn w B vi vp vq vu vs its ts qs bs ss) (hb : Below w.heap.size w w') : WorldOwn w' B vi vp vq vu vs its ts qs bs ss := h.same fun b hp => hb.block b (h.lt b hp).2
theorem WorldOwn.base (h : WorldOwn w B vi vp vq vu vs its ts qs bs ss) (hb : B' ≤ B) : WorldOwn w B' vi vp vq vu vs its ts qs bs ss := ⟨h.fetch.base hb, ownsRow_base2 h.bools hb, h.stores.base hb, h.apart⟩
/-- The row of booleans is no other row. -/
theorem WorldOwn.boolF (h : WorldOwn w B vi vp vq vu vs its ts qs bs ss) (b : Nat) (hu : vu.ownBlock = some b) : ¬ FBlk vi vp vq qs b := fun hf => by
  rcases hf with hf | hf | hf | ⟨i, hi, hf⟩
  · exact row_other h.bools h.fetch.store.items (by decide) hu hf
  · exact row_other h.bools h.fetch.store.pins (by decide) hu hf
  · exact row_other h.bools h.fetch.peers.row (by decide) hu hf
  · exact row_other h.bools (h.fetch.peers.nots i hi) (by decide) hu hf
theorem WorldOwn.boolT (h : WorldOwn w B vi vp vq vu vs its ts qs bs ss) (b : Nat) (hu : vu.ownBlock = some b) : ¬ TBlk vs ss b := fun hf => by
  rcases hf with hf | ⟨i, hi, hf | hf⟩
  · exact row_other h.bools h.stores.row (by decide) hu hf
  · exact row_other h.bools (h.stores.each i hi).items (by decide) hu hf
  · exact row_other h.bools (h.stores.each i hi).pins (by decide) hu hf
end
theorem fblk_marks {vi vp vq : Value} {qs : PV} {k b : Nat} (h : FBlk vi vp vq (marksQ k qs) b) : FBlk vi vp vq qs b := h.imp id (fun h => h.imp id pblk_marks)
/-- How many marks a world takes. -/
def totW (its : Itms) (ts : List ByteArray) (ps : Prs) (bs : List Bool) (ss : Srs) : Nat := 2 * its.length + ts.length + totP ps + bs.length + totR ss
set_option maxRecDepth 100000 in
set_option maxHeartbeats 4000000 in
theorem markWorld_any (nm : ByteArray) (now : Int) (full : Bool) (wd room wst : Int) (vi vp vq vu vs : Value) (am : Option Addr) (cm B : Nat) (its : Itms) (ts : List ByteArray) (qs : PV) (bs : List Bool) (ss : SV) (w : World) (h : WorldOwn w B vi vp vq vu vs its ts qs bs ss) (hl : totW its ts (qs.map Prod.fst) bs (ss.map Prod.fst) ≤ 4200000) :
    Calls Tryz.prog 15 #[wval nm now full wd room vi vp vq vu vs (.slice am 0 cm) wst, .int .i64 1] w fun e w' => e = .returned (.int .i64 ((1 + totW its ts (qs.map Prod.fst) bs (ss.map Prod.fst) : Nat) : Int)) ∧
      WorldOwn w' B vi vp vq vu vs (marksI 1 its.length) (marks (1 + 2 * its.length) ts.length) (marksQ (1 + 2 * its.length + ts.length) qs) (markU (1 + 2 * its.length + ts.length + totQ qs) bs.length) (marksT (1 + 2 * its.length + ts.length + totQ qs + bs.length) ss) ∧ Kept w w' (WBlk vi vp vq vu vs qs ss) := by
  have hq : totP (qs.map Prod.fst) = totQ qs := rfl
  have ht : totR (ss.map Prod.fst) = totT ss := rfl
  have hlw : 2 * its.length + ts.length + totQ qs + bs.length + totT ss ≤ 4200000 := by unfold totW at hl; rw [hq, ht] at hl; exact hl
  have htw : totW its ts (qs.map Prod.fst) bs (ss.map Prod.fst) = 2 * its.length + ts.length + totQ qs + bs.length + totT ss := by unfold totW; rw [hq, ht]
  rw [htw]
  clear hq ht hl htw
  have hA := (Below.refl w.heap.size w).alloc (Nat.le_refl _) (.cells (wcells nm now full wd room vi vp vq vu vs (.slice am 0 cm) wst) 42)
  have h' := h.below hA
  have HMF := hid (markFetch_any nm now full wd room vi vp vq B its ts qs _ h'.fetch (by omega))
  have HMB := hid fun W (hw : W.ownsRow B 4 1 vu bs.length (bs.map Value.bool)) => markBoolS_any vu (1 + 2 * its.length + ts.length + totQ qs) B bs W hw (by omega) (by omega)
  have HMT := hid fun W (hw : StoresOwn W B vs ss) => markStoreS_any vs (1 + 2 * its.length + ts.length + totQ qs + bs.length) B ss W hw (by omega) (by omega)
  have HN := hid (Blk.new w 42 (wcells nm now full wd room vi vp vq vu vs (.slice am 0 cm) wst))
  have HH := hid h'
  have HO := hid h
  have HLT := hid fun b => h.lt b
  have HA := hid hA
  obtain ⟨ai, ci, rfl⟩ := row_any h.fetch.store.items
  obtain ⟨ap, cp, rfl⟩ := row_any h.fetch.store.pins
  obtain ⟨aq, cq, rfl⟩ := row_any h.fetch.peers.row
  obtain ⟨au, cu, rfl⟩ := row_any h.bools
  obtain ⟨ax, cx, rfl⟩ := row_any h.stores.row
  obtain ⟨k1, hk1⟩ : ∃ k, k = 1 + 2 * its.length + ts.length + totQ qs := ⟨_, rfl⟩
  obtain ⟨k2, hk2⟩ : ∃ k, k = 1 + 2 * its.length + ts.length + totQ qs + bs.length := ⟨_, rfl⟩
  obtain ⟨k3, hk3⟩ : ∃ k, k = k2 + totT ss := ⟨_, rfl⟩
  have hk12 : k1 + bs.length = k2 := by omega
  rw [← hk1] at HMF HMB
  rw [← hk2] at HMT
  rw [← hk3] at HMT
  rw [hk12] at HMB
  have hke : 1 + (2 * its.length + ts.length + totQ qs + bs.length + totT ss) = k3 := by omega
  rw [hke, ← hk2, ← hk1]
  clear h h' hA hk12 hke hlw hk1 hk2 hk3
  go_enter Tryz.func15, Tryz.ntmps15
  go_wp2_with fail
  refine HMF.out.mono ?_
  rintro e w1 ⟨rfl, hf1, hp1⟩
  have hnw : ∀ b, WBlk (.slice ai its.length ci) (.slice ap ts.length cp) (.slice aq qs.length cq) (.slice au bs.length cu) (.slice ax ss.length cx) qs ss b → b < w.heap.size := fun b hb => (HLT.out b hb).2
  have N1 : Blk w1 w.heap.size 42 (wcells nm now full wd room (.slice ai its.length ci) (.slice ap ts.length cp) (.slice aq qs.length cq) (.slice au bs.length cu) (.slice ax ss.length cx) (.slice am 0 cm) wst) := (hp1.block w.heap.size HN.out.lt (fun hb => by have := hnw _ (.inl hb); omega)).trans HN.out
  have b1 := row_same (w' := w1) HH.out.bools (fun b hb => hp1.block b (HH.out.bools.lt b hb).2 (HH.out.boolF b hb))
  have t1 := HH.out.stores.same (w' := w1) (fun b hb => hp1.block b (HH.out.stores.lt b hb).2 (fun k => HH.out.apart b k hb))
  have HF1 := hid hf1
  have HT1 := hid t1
  have HK1 := hid hp1
  have HN1 := hid N1
  have HB1 := hid (HMB.out w1 b1)
  have HBR := hid b1
  have y8 : w1.cell? ⟨w.heap.size, 8, none⟩ = some (.slice au bs.length cu) := N1.cell 8
  clear hf1 hp1 N1 b1 t1 HMB HMF
  go_wp2_with fail
  refine HB1.out.mono ?_
  rintro e w2 ⟨rfl, ho2, hg2⟩
  have hne2 : some w.heap.size ≠ (Value.slice au bs.length cu).ownBlock := fun e => by have := hnw _ (.inr (.inl e.symm)); omega
  have N2 := HN1.out.kept hg2 hne2
  have y9 : w2.cell? ⟨w.heap.size, 9, none⟩ = some (.slice ax ss.length cx) := N2.cell 9
  have bu : ∀ b, (Value.slice au bs.length cu).ownBlock = some b → b < w1.heap.size := fun b e => (HBR.out.lt b e).2
  have f2 := HF1.out.same (w' := w2) (fun b hb => hg2.block b (HF1.out.lt b hb).2 (fun e => HH.out.boolF b e.symm (fblk_marks hb)))
  have t2 := HT1.out.same (w' := w2) (fun b hb => hg2.block b (HT1.out.lt b hb).2 (fun e => HH.out.boolT b e.symm hb))
  have HF2 := hid f2
  have HMT2 := hid (HMT.out w2 t2)
  have HT2 := hid t2
  have HO2 := hid ho2
  have HN2 := hid N2
  have HK2 := hid ((HK1.out.mono (fun b hb => (.inl hb : WBlk (.slice ai its.length ci) (.slice ap ts.length cp) (.slice aq qs.length cq) (.slice au bs.length cu) (.slice ax ss.length cx) qs ss b))).trans (Kept.of_grown hg2 (fun b e => .inr (.inl e))))
  clear ho2 hg2 hne2 N2 f2 t2 y8 HMT bu
  go_wp2_with fail
  refine HMT2.out.mono ?_
  rintro e w3 ⟨rfl, ho3, hp3⟩
  have N3 : Blk w3 w.heap.size 42 (wcells nm now full wd room (.slice ai its.length ci) (.slice ap ts.length cp) (.slice aq qs.length cq) (.slice au bs.length cu) (.slice ax ss.length cx) (.slice am 0 cm) wst) := (hp3.block w.heap.size HN2.out.lt (fun hb => by have := hnw _ (.inr (.inr hb)); omega)).trans HN2.out
  have y10 : w3.cell? ⟨w.heap.size, 10, none⟩ = some (.slice am 0 cm) := N3.cell 10
  have f3 := HF2.out.same (w' := w3) (fun b hb => hp3.block b (HF2.out.lt b hb).2 (fun k => HH.out.apart b (fblk_marks hb) k))
  have u3 := row_same (w' := w3) HO2.out (fun b hb => hp3.block b (HO2.out.lt b hb).2 (HH.out.boolT b hb))
  have HE : Hid (WorldOwn w3 B (.slice ai its.length ci) (.slice ap ts.length cp) (.slice aq qs.length cq) (.slice au bs.length cu) (.slice ax ss.length cx) (marksI 1 its.length) (marks (1 + 2 * its.length) ts.length) (marksQ (1 + 2 * its.length + ts.length) qs) (markU k1 bs.length) (marksT k2 ss)) := hid ⟨f3, by rw [markU_len]; exact u3, ho3, fun b hb hc => HH.out.apart b (fblk_marks hb) (tblk_marks hc)⟩
  have HKE := hid ((HK2.out.trans (hp3.mono (fun b hb => .inr (.inr hb)))))
  have HKB := hid ((Kept.of_below (T := WBlk (.slice ai its.length ci) (.slice ap ts.length cp) (.slice aq qs.length cq) (.slice au bs.length cu) (.slice ax ss.length cx) qs ss) HA.out).trans HKE.out)
  clear ho3 hp3 N3 f3 u3 y9 HKE
  go_wp2_with fail
  refine (markMsgs_none am cm k3 w3).mono ?_
  rintro e w4 ⟨rfl, rfl⟩
  go_wp2
  go_ret
  exact ⟨rfl, HE.out, HKB.out⟩
set_option maxRecDepth 100000 in
set_option maxHeartbeats 4000000 in
theorem heldWorld_any (nm : ByteArray) (now : Int) (full : Bool) (wd room wst : Int) (vi vp vq vu vs : Value) (am : Option Addr) (cm ni np nu : Nat) (ps : Prs) (ss : Srs) (w : World) (hi : RdI w vi (marksI 1 ni)) (hp : Reads w vp (marks (1 + 2 * ni) np)) (hq : RdP w vq (marksP (1 + 2 * ni + np) ps)) (hu : RdB w vu (markU (1 + 2 * ni + np + totP ps) nu)) (hs : RdS w vs (marksR (1 + 2 * ni + np + totP ps + nu) ss)) (hl : 2 * ni + np + totP ps + nu + totR ss ≤ 4200000) :
    Calls Tryz.prog 16 #[wval nm now full wd room vi vp vq vu vs (.slice am 0 cm) wst, .int .i64 1] w fun e w' => e = .returned (.int .i64 ((1 + (2 * ni + np + totP ps + nu + totR ss) : Nat) : Int)) ∧ Below w.heap.size w w' := by
  have hA := (Below.refl w.heap.size w).alloc (Nat.le_refl _) (.cells (wcells nm now full wd room vi vp vq vu vs (.slice am 0 cm) wst) 42)
  have HHF := hid (heldFetch_any nm now full wd room vi vp vq ni np ps _ (hi.below hA) (hp.below hA) (hq.below hA) (by omega))
  have HHB := hid fun W (hw : RdB W vu (markU (1 + 2 * ni + np + totP ps) nu)) => heldBoolS_any vu (1 + 2 * ni + np + totP ps) nu W hw (by omega) (by omega)
  have HHT := hid fun W (hw : RdS W vs (marksR (1 + 2 * ni + np + totP ps + nu) ss)) => heldStoreS_any vs (1 + 2 * ni + np + totP ps + nu) ss W hw (by omega) (by omega)
  have HN := hid (Blk.new w 42 (wcells nm now full wd room vi vp vq vu vs (.slice am 0 cm) wst))
  have HU := hid (hu.below hA)
  have HS := hid (hs.below hA)
  have HA := hid hA
  obtain ⟨ai, ci, rfl, _⟩ := id hi
  obtain ⟨ap, cp, rfl, _⟩ := hp.form
  obtain ⟨aq, cq, rfl, _⟩ := id hq
  obtain ⟨au, cu, rfl, _⟩ := id hu
  obtain ⟨ax, cx, rfl, _⟩ := id hs
  obtain ⟨k1, hk1⟩ : ∃ k, k = 1 + 2 * ni + np + totP ps := ⟨_, rfl⟩
  obtain ⟨k2, hk2⟩ : ∃ k, k = 1 + 2 * ni + np + totP ps + nu := ⟨_, rfl⟩
  obtain ⟨k3, hk3⟩ : ∃ k, k = k2 + totR ss := ⟨_, rfl⟩
  have hk12 : k1 + nu = k2 := by omega
  rw [← hk1] at HHF HHB HU
  rw [← hk2] at HHT HS
  rw [← hk3] at HHT
  rw [hk12] at HHB
  have hke : 1 + (2 * ni + np + totP ps + nu + totR ss) = k3 := by omega
  rw [hke]
  have hn1 : ¬ ((k1 : Int) < 0) := by omega
  have hn2 : ¬ ((k2 : Int) < 0) := by omega
  have hn3 : ¬ ((k3 : Int) < 0) := by omega
  rw [marksI_len] at *
  simp only [marks_length, marksP_len, markU_len, marksR_len] at *
  clear hi hp hq hu hs hA hk12 hke hl hk1 hk2 hk3
  go_enter Tryz.func16, Tryz.ntmps16
  go_wp2_with fail
  refine HHF.out.mono ?_
  rintro e w1 ⟨rfl, hb1⟩
  have N1 := HN.out.below hb1
  have y8 : w1.cell? ⟨w.heap.size, 8, none⟩ = some (.slice au nu cu) := N1.cell 8
  have HB1 := hid (HA.out.trans (hb1.mono (by simp)))
  have HH1 := hid (HHB.out w1 (HU.out.below hb1))
  have HS1 := hid (HS.out.below hb1)
  have HN1 := hid N1
  clear hb1 N1 HHF HHB
  go_wp2_with fail
  refine HH1.out.mono ?_
  rintro e w2 ⟨rfl, hb2⟩
  have N2 := HN1.out.below hb2
  have y9 : w2.cell? ⟨w.heap.size, 9, none⟩ = some (.slice ax ss.length cx) := N2.cell 9
  have HB2 := hid (HB1.out.trans (hb2.mono HB1.out.size))
  have HH2 := hid (HHT.out w2 (HS1.out.below hb2))
  have HN2 := hid N2
  clear hb2 N2 HH1 HHT y8
  go_wp2_with fail
  refine HH2.out.mono ?_
  rintro e w3 ⟨rfl, hb3⟩
  have N3 := HN2.out.below hb3
  have y10 : w3.cell? ⟨w.heap.size, 10, none⟩ = some (.slice am 0 cm) := N3.cell 10
  have HB3 := hid (HB2.out.trans (hb3.mono HB2.out.size))
  clear hb3 N3 HH2 y9
  go_wp2_with fail
  refine (heldMsgs_none am cm k3 w3).mono ?_
  rintro e w4 ⟨rfl, rfl⟩
  go_wp2
  go_ret
  exact ⟨rfl, HB3.out⟩
end Go.Proofs.YtlnkhbnbcmllaaaGreat
