import Derived.Test.YtmcipciimnncmaaFetchOwn
import Derived.Test.YtmcipciimnncmaaStoreMark
import Derived.Test.YtmcipciimnncmaaItems
import Derived.Lib.SmallJoins
import Derived.Below
import Derived.DataElems
import Derived.WalkKit
import Derived.ProofKit
import Derived.OpenShut
import Derived.ShutString
import Derived.ChangeOld
import Derived.SliceStrings
/- laws.heldPeerS, laws.markFetch, laws.heldFetch. -/
namespace Go.Proofs.Ytmcipciimnncmaa
open Go.RowKit
theorem totP_take (ps : Prs) (m : Nat) (h : m < ps.length) : totP (ps.take (m + 1)) = totP (ps.take m) + (4 + (pat ps m).nots.length) := by
  rw [List.take_succ_eq_append_getElem h, totP_append]
  simp [totP, pat, h]
theorem totP_take_le (ps : Prs) (m : Nat) : totP (ps.take m) ≤ totP ps := by
  conv => rhs; rw [← List.take_append_drop m ps]
  rw [totP_append]; omega
theorem marksP_at : ∀ (ps : Prs) (k m : Nat), m < ps.length → pat (marksP k ps) m = markP (k + totP (ps.take m)) (pat ps m)
  | [], _, _, h => absurd h (by simp)
  | p :: r, k, 0, _ => by simp [marksP, pat, totP]
  | p :: r, k, m + 1, h => by
    have ih := marksP_at r (k + (4 + p.nots.length)) m (by simpa using h)
    have e1 : pat (marksP k (p :: r)) (m + 1) = pat (marksP (k + (4 + p.nots.length)) r) m := rfl
    have e2 : pat (p :: r) (m + 1) = pat r m := rfl
    rw [e1, e2, ih, List.take_succ_cons, totP]
    congr 1
    omega
set_option maxRecDepth 100000 in
set_option maxHeartbeats 2000000 in
theorem heldPeerS_any (v : Value) (k : Nat) (ps : Prs) (w : World) (hv : RdP w v (marksP k ps)) (h1 : 1 ≤ k) (h2 : k + totP ps ≤ 4399990) :
    Calls Try.prog 53 #[v, .int .i64 k] w fun e w' => e = .returned (.int .i64 ((k + totP ps : Nat) : Int)) ∧ Below w.heap.size w w' := by
  obtain ⟨a, ca, rfl, hca⟩ := hv
  rw [marksP_len]
  rw [marksP_len] at hca
  have HC := hid hca
  have hec := enters_of Try.func66 (by kernel_rfl) rfl
  clear hca
  go_enter Try.func53, Try.ntmps53
  go_wp2
  go_loopw [1, 5] (fun x i wr => ∃ m : Nat, m ≤ ps.length ∧ i = .int .i64 m ∧ x = .int .i64 ((k + totP (ps.take m) : Nat) : Int) ∧ Below w.heap.size w wr) (fun _ i _ => ps.length - (intOf i).toNat)
  case atStart => exact ⟨0, Nat.zero_le _, rfl, by simp [totP], Below.refl _ _⟩
  case round =>
    obtain ⟨m, hm, rfl, rfl, hb⟩ := hrel
    by_cases hlt : m < ps.length
    · obtain ⟨b, o, vn, rfl, h5⟩ := HC.out m hlt
      rw [marksP_at ps k m hlt] at h5
      have g5 := h5.below hb
      have htk := totP_take ps m hlt
      have htl := totP_take_le ps (m + 1)
      obtain ⟨j, hj⟩ : ∃ j, j = k + totP (ps.take m) := ⟨_, rfl⟩
      rw [← hj] at g5 ⊢
      have hjb : j + 4 + (pat ps m).nots.length ≤ 4399990 := by omega
      have hql : ps.length ≤ 1100000 := by have := totP_ge ps; omega
      have HM := hid fun W => markText_any (j + 3) W (by omega) (by omega)
      have HHS := hid fun W h => heldStringS_any vn (j + 4) (pat ps m).nots.length W h (by omega) (by omega)
      obtain ⟨x0, x1, x2, x3, x4, x5, x6⟩ := g5
      obtain ⟨a4, c4, hvn, _⟩ := x6.form
      rw [show (markP j (pat ps m)).nots.length = (pat ps m).nots.length from marks_length _ _] at hvn
      subst hvn
      have HJ := hid hj
      have HTK := hid htk
      have HB := hid hb
      have HX6 := hid x6
      obtain ⟨j1, hj1⟩ : ∃ j1, j1 = j + 1 := ⟨_, rfl⟩
      obtain ⟨j2, hj2⟩ : ∃ j2, j2 = j + 2 := ⟨_, rfl⟩
      obtain ⟨j3, hj3⟩ : ∃ j3, j3 = j + 3 := ⟨_, rfl⟩
      obtain ⟨j4, hj4⟩ : ∃ j4, j4 = j + 4 := ⟨_, rfl⟩
      have hw1 : IntKind.i64.wrap ((j : Int) + 1) = (j1 : Int) := by rw [IntKind.wrap_i64]; omega
      have hw2 : IntKind.i64.wrap ((j1 : Int) + 1) = (j2 : Int) := by rw [IntKind.wrap_i64]; omega
      have hw3 : IntKind.i64.wrap ((j2 : Int) + 1) = (j3 : Int) := by rw [IntKind.wrap_i64]; omega
      have hw4 : IntKind.i64.wrap ((j3 : Int) + 1) = (j4 : Int) := by rw [IntKind.wrap_i64]; omega
      have hmk : markP j (pat ps m) = ⟨(j : Int), (j1 : Int), (j2 : Int), markB j3, marks j4 (pat ps m).nots.length⟩ := by rw [hj1, hj2, hj3, hj4]; rfl
      rw [hmk] at x1 x2 x3 x4 HX6
      dsimp only at x1 x2 x3 x4 HX6
      rw [← hj3] at HM
      rw [← hj4] at HHS
      have HJ4 := hid hj4
      clear hj hj1 hj2 hj3 hj4 htk htl hb hmk h5 h1 h2 x6
      generalize markB j3 = q at *
      generalize (pat ps m).nots.length = nl at *
      have hS0 : wr.drew.cell? ⟨b, o + m * 5 + 3, none⟩ = some (.string q) := x4
      go_wp2_with fail
      refine wp_region_held (S := fun w' => w'.cell? ⟨b, o + m * 5 + 3, none⟩ = some (.string q)) (by kernel_rfl) ?_
      change wpAnyH _ _ _ _ _ _ _ _ (World.drew _)
      refine wpAnyH_take (i := 0) (v := .slice (some ⟨b, o, none⟩) ps.length ca) rfl (by kernel_rfl) (by kernel_rfl) (by kernel_rfl) (fun _ _ _ h => h) (.inl ⟨rfl, fun w' hS => by obtain s1 := hS; go_simp⟩) hS0 ?_
      refine wpAnyH_take (i := 1) (v := .int .i64 (m : Nat)) rfl (by kernel_rfl) (by kernel_rfl) (by kernel_rfl) (fun _ _ _ h => h) (.inl ⟨rfl, fun w' hS => by obtain s1 := hS; go_simp⟩) hS0 ?_
      refine wpAnyH_take (i := 2) (v := .pointer (some ⟨b, o + m * 5, none⟩)) rfl (by kernel_rfl) (by kernel_rfl) (by kernel_rfl) (fun _ _ _ h => h) (.inl ⟨rfl, fun w' hS => by obtain s1 := hS; go_simp⟩) hS0 ?_
      refine wpAnyH_take (i := 3) (v := .pointer (some ⟨b, o + m * 5 + 3, none⟩)) rfl (by kernel_rfl) (by kernel_rfl) (by kernel_rfl) (fun _ _ _ h => h) (.inl ⟨rfl, fun w' hS => by obtain s1 := hS; go_simp⟩) hS0 ?_
      refine wpAnyH_take (i := 4) (v := .string q) rfl (by kernel_rfl) (by kernel_rfl) (by kernel_rfl) (fun _ _ _ h => h) (.inl ⟨rfl, fun w' hS => by obtain s1 := hS; go_simp⟩) hS0 ?_
      refine wpAnyH_take (i := 5) (v := .int .i64 (j3 : Int)) rfl (by kernel_rfl) (by kernel_rfl) (by kernel_rfl) (fun _ _ _ h => h) (.inl ⟨rfl, fun w' hS => by obtain s1 := hS; go_simp⟩) hS0 ?_
      refine held_one 6 (by kernel_rfl) (op_calls (f := 66) (args := #[.int .i64 (j3 : Int)]) rfl rfl (by go_simp) (HM.out _) ?_)
      rintro e w1 ⟨rfl, hb1⟩
      have hb1' : Below wr.heap.size wr w1 := ⟨hb1.os, hb1.tape, hb1.output, hb1.size, hb1.block⟩
      have hS1 : w1.cell? ⟨b, o + m * 5 + 3, none⟩ = some (.string q) := (hb1'.cell (p := ⟨b, o + m * 5 + 3, none⟩) x0).trans x4
      have y5 := (hb1'.cell (p := ⟨b, o + m * 5 + 4, none⟩) x0).trans x5
      have HB1 := hid (HB.out.trans (hb1'.mono HB.out.size))
      have HH1 := hid (HHS.out w1 (HX6.out.below hb1'))
      clear hb1 hb1' hS0 x1 x2 x3 x4 x5 HHS HX6
      refine ⟨_, rfl, hS1, ?_⟩
      refine wpAnyH_take (i := 7) (v := .bool false) rfl (by kernel_rfl) (by kernel_rfl) (by kernel_rfl) (fun _ _ _ h => h) (.inl ⟨rfl, fun w' hS => by obtain s1 := hS; go_simp⟩) hS1 ?_
      refine wpAnyH_done (by kernel_rfl) ?_ _
      clear hS1
      go_simp
      go_wp2_with fail
      refine HH1.out.mono ?_
      rintro e w2 ⟨rfl, hb2⟩
      have hnn : ¬ (((j4 + nl : Nat) : Int) < 0) := by omega
      have HB2 := hid (HB1.out.trans (hb2.mono HB1.out.size))
      clear hb2 y5
      go_wp2
      refine ⟨⟨m + 1, by omega, by go_num, ?_, HB2.out⟩, by simp [intOf]; omega⟩
      rw [HTK.out, HJ4.out, HJ.out]; congr 1; omega
    · obtain rfl : m = ps.length := by omega
      rw [List.take_length]
      go_wp2
      go_ret
      exact ⟨rfl, hb⟩
theorem pblk_marks {v : Value} {qs : PV} {k b : Nat} (h : PBlk v (marksQ k qs) b) : PBlk v qs b := by
  rcases h with h | ⟨i, hi, h⟩
  · exact .inl h
  · rw [marksQ_len] at hi
    rw [qv_marks] at h
    exact .inr ⟨i, hi, h⟩
set_option maxRecDepth 100000 in
set_option maxHeartbeats 1000000 in
theorem markFetch_any (nm : ByteArray) (now : Int) (full : Bool) (wd room : Int) (vi vp vq : Value) (B : Nat) (its : Itms) (ts : List ByteArray) (qs : PV) (w : World) (h : FetchOwn w B vi vp vq its ts qs) (hl : 2 * its.length + ts.length + totQ qs ≤ 4300000) :
    Calls Try.prog 24 #[fval nm now full wd room vi vp vq, .int .i64 1] w fun e w' => e = .returned (.int .i64 ((1 + 2 * its.length + ts.length + totQ qs : Nat) : Int)) ∧ FetchOwn w' B vi vp vq (marksI 1 its.length) (marks (1 + 2 * its.length) ts.length) (marksQ (1 + 2 * its.length + ts.length) qs) ∧ Kept w w' (FBlk vi vp vq qs) := by
  have hA := (Below.refl w.heap.size w).alloc (Nat.le_refl _) (.cells (fcells nm now full wd room vi vp vq) 43)
  have h' := h.below hA
  have HMS := hid (markStore_any wd room vi vp B its ts _ h'.store (by omega))
  have HMP := hid fun W (hw : PeersOwn W B vq qs) => markPeerS_any vq (1 + 2 * its.length + ts.length) B qs W hw (by omega) (by omega)
  have HN := hid (Blk.new w 43 (fcells nm now full wd room vi vp vq))
  have HPW := hid h'.peers
  have HO := hid h
  have hlt := fun b => h.lt b
  obtain ⟨ai, ci, rfl⟩ := row_any h.store.items
  obtain ⟨ap, cp, rfl⟩ := row_any h.store.pins
  obtain ⟨aq, cq, rfl⟩ := row_any h.peers.row
  have HLT := hid hlt
  clear h h' hA hlt
  go_enter Try.func24, Try.ntmps24
  go_wp2_with fail
  refine HMS.out.mono ?_
  rintro e w1 ⟨rfl, ho1, hsame1, hsz1, hbel1⟩
  rw [World.size_alloc] at hsz1 hsame1
  have hA0 : ∀ b, b < w.heap.size → (w.alloc (.cells (fcells nm now full wd room (.slice ai its.length ci) (.slice ap ts.length cp) (.slice aq qs.length cq)) 43)).heap[b]? = w.heap[b]? := fun b hb => Below.heap_alloc w _ b hb
  have hK1 : Kept w w1 (FBlk (.slice ai its.length ci) (.slice ap ts.length cp) (.slice aq qs.length cq) qs) := by
    have hb := hbel1 0 (fun _ _ => Nat.zero_le _) (fun _ _ => Nat.zero_le _) (Nat.zero_le _)
    exact ⟨hb.os, hb.tape, hb.output, by omega, fun k hk ht => (hsame1 k (by omega) (fun e => ht (.inl e)) (fun e => ht (.inr (.inl e)))).trans (hA0 k hk)⟩
  have N1 : Blk w1 w.heap.size 43 (fcells nm now full wd room (.slice ai its.length ci) (.slice ap ts.length cp) (.slice aq qs.length cq)) := (hsame1 w.heap.size (by omega) (fun e => by have := (HLT.out _ (.inl e)).2; omega) (fun e => by have := (HLT.out _ (.inr (.inl e))).2; omega)).trans HN.out
  have P1 : PeersOwn w1 B (.slice aq qs.length cq) qs := HO.out.peers.same fun b hb => (hsame1 b (by have := (HLT.out b (.inr (.inr hb))).2; omega) (fun e => HO.out.apartI b e hb) (fun e => HO.out.apartP b e hb)).trans (hA0 b (HLT.out b (.inr (.inr hb))).2)
  have x7 : w1.cell? ⟨w.heap.size, 7, none⟩ = some (.slice aq qs.length cq) := N1.cell 7
  have HM2 := hid (HMP.out w1 P1)
  have HO1 := hid ho1
  have HK1 := hid hK1
  clear N1 P1 ho1 hsame1 hbel1 hK1 hA0
  go_wp2_with fail
  refine HM2.out.mono ?_
  rintro e w2 ⟨rfl, ho2, hK2⟩
  have HO2 := hid ho2
  have HK2 := hid hK2
  clear ho2 hK2
  go_wp2
  go_ret
  refine ⟨rfl, ⟨HO1.out.same (fun g e => HK2.out.block g (by have := (HLT.out g (.inl e)).2; omega) (HO.out.apartI g e)) (fun g e => HK2.out.block g (by have := (HLT.out g (.inr (.inl e))).2; omega) (HO.out.apartP g e)), HO2.out, fun g e hp => HO.out.apartI g e (pblk_marks hp), fun g e hp => HO.out.apartP g e (pblk_marks hp)⟩, HK1.out.trans (HK2.out.mono fun g h => .inr (.inr h))⟩
set_option maxRecDepth 100000 in
set_option maxHeartbeats 1000000 in
theorem heldFetch_any (nm : ByteArray) (now : Int) (full : Bool) (wd room : Int) (vi vp vq : Value) (ni np : Nat) (ps : Prs) (w : World) (hi : RdI w vi (marksI 1 ni)) (hp : Reads w vp (marks (1 + 2 * ni) np)) (hq : RdP w vq (marksP (1 + 2 * ni + np) ps)) (hl : 2 * ni + np + totP ps ≤ 4300000) :
    Calls Try.prog 25 #[fval nm now full wd room vi vp vq, .int .i64 1] w fun e w' => e = .returned (.int .i64 ((1 + 2 * ni + np + totP ps : Nat) : Int)) ∧ Below w.heap.size w w' := by
  have hA := (Below.refl w.heap.size w).alloc (Nat.le_refl _) (.cells (fcells nm now full wd room vi vp vq) 43)
  have HHS := hid (heldStore_any wd room vi vp ni np _ (hi.below hA) (hp.below hA) (by omega))
  have HHP := hid fun W h => heldPeerS_any vq (1 + 2 * ni + np) ps W h (by omega) (by omega)
  have HN := hid (Blk.new w 43 (fcells nm now full wd room vi vp vq))
  have HQ := hid (hq.below hA)
  have HA := hid hA
  obtain ⟨ai, ci, rfl, _⟩ := hi
  obtain ⟨ap, cp, rfl, _⟩ := hp.form
  obtain ⟨aq, cq, rfl, _⟩ := hq
  clear hp hA
  go_enter Try.func25, Try.ntmps25
  go_wp2_with fail
  refine HHS.out.mono ?_
  rintro e w1 ⟨rfl, hb1⟩
  have x7 : w1.cell? ⟨w.heap.size, 7, none⟩ = _ := (HN.out.below hb1).cell 7
  have HP1 := hid (HHP.out w1 (HQ.out.below hb1))
  have HB1 := hid (HA.out.trans (hb1.mono (by simp)))
  have hnn : ¬ (((1 + 2 * ni + np : Nat) : Int) < 0) := by omega
  clear hb1
  go_wp2_with fail
  refine HP1.out.mono ?_
  rintro e w2 ⟨rfl, hb2⟩
  have HB2 := hid (HB1.out.trans (hb2.mono HB1.out.size))
  have hnn2 : ¬ (((1 + 2 * ni + np + totP ps : Nat) : Int) < 0) := by omega
  clear hb2
  go_wp2
  go_ret
  exact ⟨rfl, HB2.out⟩
end Go.Proofs.Ytmcipciimnncmaa
/- A slice of items that came in, as a list. -/
namespace Go.Proofs.Ytmcipciimnncmaa
open Go.ChangeShapes Go.WideShapes Go.ChangeAt Go.RowKit
theorem list_of {α : Type} (d : α) (Q : Nat → α → Prop) : ∀ n : Nat, (∀ i, i < n → ∃ p, Q i p) → ∃ l : List α, l.length = n ∧ ∀ i, i < n → Q i (l.getD i d)
  | 0, _ => ⟨[], rfl, fun i hi => absurd hi (by omega)⟩
  | n + 1, h => by
    obtain ⟨l, hl, hq⟩ := list_of d Q n fun i hi => h i (by omega)
    obtain ⟨p, hp⟩ := h n (by omega)
    refine ⟨l ++ [p], by simp [hl], fun i hi => ?_⟩
    rcases Nat.lt_or_eq_of_le (Nat.le_of_lt_succ hi) with h1 | h1
    · rw [List.getD_eq_getElem?_getD, List.getElem?_append_left (by omega), ← List.getD_eq_getElem?_getD]
      exact hq i h1
    · subst hl
      subst h1
      simpa using hp
theorem cellsItem : Try.prog.cellsOf 79 = 2 := by kernel_rfl
theorem cells9 : Try.prog.cellsOf 9 = 1 := by kernel_rfl
theorem cells3 : Try.prog.cellsOf 3 = 1 := by kernel_rfl
set_option maxRecDepth 100000 in
theorem open_items {H : Type} {enc : TypeId × Value → H} {W : World} {base : Nat} {spare : Nat → Bool} {held : Bool} {fuel : Nat} {v : Value} {x : DataW H × List MemPlace} (h : DataW.trod enc Try.prog W base spare held fuel 22 [v] = some x) :
    ∃ its : Itms, RdI W v its ∧ its.length ≤ maxLen ∧ ∀ i, (itx its i).size ≤ maxLen := by
  rcases DataW.trod_slice Try.underlying22 h with ⟨hcs, _⟩ | ⟨a, len, cap, elems, rest, n, _, hcs, _, _, hl, hm, hlen, hel, _, _⟩
  · simp at hcs
    subst hcs
    exact ⟨[], ⟨none, 0, rfl, fun i hi => absurd hi (by simp)⟩, by simp, fun i => by simp [itx]⟩
  · simp at hcs
    subst hcs
    have each : ∀ i, i < len → ∃ p : ByteArray × Int, p.1.size ≤ maxLen ∧ W.cell? (a.add (i * 2)) = some (.string p.1) ∧ W.cell? (a.add (i * 2 + 1)) = some (.int .i64 p.2) := by
      intro i hi
      have h1 := hel i hi
      rw [cellsItem, List.getElem?_eq_getElem (by omega), Option.bind_eq_some_iff] at h1
      obtain ⟨cs, h2, h3⟩ := h1
      obtain ⟨hc1, hc2⟩ : cs.length = 2 ∧ ∀ j, j < 2 → W.cell? ((a.add (i * 2)).add j) = cs[j]? := by
        exact (World.cells?_some h2).2
      obtain ⟨xs, m, _, _, _, hxl, hf⟩ := DataW.trod_struct Try.underlying79 h3
      match cs, hc1 with
      | [c0, c1], _ =>
        match xs, hxl with
        | [y0, y1], _ =>
          have g0 : DataW.trod enc Try.prog W base spare held m 9 [c0] = some y0 := by simpa [cells9] using hf 0 _ rfl
          have g1 : DataW.trod enc Try.prog W base spare held m 3 [c1] = some y1 := by simpa [cells3] using hf 1 _ rfl
          obtain ⟨s, e0, _, hw⟩ := DataW.trod_string Try.underlying9 g0
          obtain ⟨u, e1, _, _⟩ := DataW.trod_int Try.underlying3 g1
          simp at e0 e1
          subst e0 e1
          refine ⟨(s, u), hw, ?_, ?_⟩
          · have := hc2 0 (by omega)
            simpa [Addr.add] using this
          · have := hc2 1 (by omega)
            rw [Addr.add_add] at this
            simpa using this
    obtain ⟨its, hn, hq⟩ := list_of (ByteArray.empty, (0 : Int)) _ len each
    subst hn
    refine ⟨its, ⟨some a, cap, rfl, fun i hi => ?_⟩, Nat.le_trans hl hm, fun i => ?_⟩
    · obtain ⟨b, off, spot⟩ := a
      obtain ⟨_, q1, q2⟩ := hq i hi
      have hspot : spot = none := by
        have := (hq 0 (by omega)).2.1
        simpa [Addr.add] using World.cell?_spot this
      subst hspot
      have ea : ∀ j, (⟨b, off, none⟩ : Addr).add j = ⟨b, off + j, none⟩ := fun j => by simp [Addr.add]
      rw [ea] at q1 q2
      exact ⟨b, off, rfl, World.block_lt_of_cell? W _ q1, q1, by rw [Nat.add_assoc]; exact q2⟩
    · by_cases hi : i < its.length
      · exact (hq i hi).1
      · have : itx its i = ByteArray.empty := by simp [itx, hi]
        rw [this]; simp
end Go.Proofs.Ytmcipciimnncmaa
