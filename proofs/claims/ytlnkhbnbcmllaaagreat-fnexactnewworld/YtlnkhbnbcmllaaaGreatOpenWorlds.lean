import Derived.Test.YtlnkhbnbcmllaaaGreatToItems
import Derived.Lib.SmallJoins
import Derived.Below
import Derived.DataElems
import Derived.WalkKit
import Derived.ProofKit
import Derived.OpenShut
import Derived.ShutString
import Derived.ChangeOld
import Derived.SliceStrings
import Derived.Test.YtlnkhbnbcmllaaaGreatPeers
import Derived.Test.YtlnkhbnbcmllaaaGreatWorlds
/- A slice of items that came in, as a list. -/
namespace Go.Proofs.YtlnkhbnbcmllaaaGreat
open Go.ChangeShapes Go.WideShapes Go.ChangeAt Go.RowKit
theorem list_of {α : Type} (d : α) (Q : Nat → α → Prop) : ∀ n : Nat, (∀ i, i < n → ∃ p, Q i p) → ∃ l : List α, l.length = n ∧ ∀ i, i < n → Q i (l.getD i d)
  | 0, _ => ⟨[], rfl, fun i hi => absurd hi (by omega)⟩
  | n + 1, h => by
    obtain ⟨l, hl, hq⟩ := list_of d Q n fun i hi => h i (by omega)
    obtain ⟨p, hp⟩ := h n (by omega)
    refine ⟨l ++ [p], by simp [hl], fun i hi => ?_⟩
    rcases Nat.lt_or_eq_of_le (Nat.le_of_lt_succ hi) with h1 | h1
    · rw [List.getD_eq_getElem?_getD, List.getElem?_append_left (by omega), ← List.getD_eq_getElem?_getD]
      exact hq i h1
    · subst hl
      subst h1
      simpa using hp
theorem cellsItem : Tryz.prog.cellsOf 119 = 2 := by kernel_rfl
theorem cells9 : Tryz.prog.cellsOf 9 = 1 := by kernel_rfl
theorem cells3 : Tryz.prog.cellsOf 3 = 1 := by kernel_rfl
set_option maxRecDepth 100000 in
theorem open_items {H : Type} {enc : TypeId × Value → H} {W : World} {base : Nat} {spare : Nat → Bool} {held : Bool} {fuel : Nat} {v : Value} {x : DataW H × List MemPlace} (h : DataW.trod enc Tryz.prog W base spare held fuel 22 [v] = some x) :
    ∃ its : Itms, RdI W v its ∧ its.length ≤ maxLen ∧ ∀ i, (itx its i).size ≤ maxLen := by
  rcases DataW.trod_slice Tryz.underlying22 h with ⟨hcs, _⟩ | ⟨a, len, cap, elems, rest, n, _, hcs, _, _, hl, hm, hlen, hel, _, _⟩
  · simp at hcs
    subst hcs
    exact ⟨[], ⟨none, 0, rfl, fun i hi => absurd hi (by simp)⟩, by simp, fun i => by simp [itx]⟩
  · simp at hcs
    subst hcs
    have each : ∀ i, i < len → ∃ p : ByteArray × Int, p.1.size ≤ maxLen ∧ W.cell? (a.add (i * 2)) = some (.string p.1) ∧ W.cell? (a.add (i * 2 + 1)) = some (.int .i64 p.2) := by
      intro i hi
      have h1 := hel i hi
      rw [cellsItem, List.getElem?_eq_getElem (by omega), Option.bind_eq_some_iff] at h1
      obtain ⟨cs, h2, h3⟩ := h1
      obtain ⟨hc1, hc2⟩ : cs.length = 2 ∧ ∀ j, j < 2 → W.cell? ((a.add (i * 2)).add j) = cs[j]? := by
        exact (World.cells?_some h2).2
      obtain ⟨xs, m, _, _, _, hxl, hf⟩ := DataW.trod_struct Tryz.underlying119 h3
      match cs, hc1 with
      | [c0, c1], _ =>
        match xs, hxl with
        | [y0, y1], _ =>
          have g0 : DataW.trod enc Tryz.prog W base spare held m 9 [c0] = some y0 := by simpa [cells9] using hf 0 _ rfl
          have g1 : DataW.trod enc Tryz.prog W base spare held m 3 [c1] = some y1 := by simpa [cells3] using hf 1 _ rfl
          obtain ⟨s, e0, _, hw⟩ := DataW.trod_string Tryz.underlying9 g0
          obtain ⟨u, e1, _, _⟩ := DataW.trod_int Tryz.underlying3 g1
          simp at e0 e1
          subst e0 e1
          refine ⟨(s, u), hw, ?_, ?_⟩
          · have := hc2 0 (by omega)
            simpa [Addr.add] using this
          · have := hc2 1 (by omega)
            rw [Addr.add_add] at this
            simpa using this
    obtain ⟨its, hn, hq⟩ := list_of (ByteArray.empty, (0 : Int)) _ len each
    subst hn
    refine ⟨its, ⟨some a, cap, rfl, fun i hi => ?_⟩, Nat.le_trans hl hm, fun i => ?_⟩
    · obtain ⟨b, off, spot⟩ := a
      obtain ⟨_, q1, q2⟩ := hq i hi
      have hspot : spot = none := by
        have := (hq 0 (by omega)).2.1
        simpa [Addr.add] using World.cell?_spot this
      subst hspot
      have ea : ∀ j, (⟨b, off, none⟩ : Addr).add j = ⟨b, off + j, none⟩ := fun j => by simp [Addr.add]
      rw [ea] at q1 q2
      exact ⟨b, off, rfl, World.block_lt_of_cell? W _ q1, q1, by rw [Nat.add_assoc]; exact q2⟩
    · by_cases hi : i < its.length
      · exact (hq i hi).1
      · have : itx its i = ByteArray.empty := by simp [itx, hi]
        rw [this]; simp
end Go.Proofs.YtlnkhbnbcmllaaaGreat
/- Peers and fetches that came in. -/
namespace Go.Proofs.YtlnkhbnbcmllaaaGreat
open Go.ChangeShapes Go.WideShapes Go.ChangeAt Go.RowKit
theorem reads_slice {w : World} {x : Addr} {len cap : Nat} {ss : List ByteArray} (hl : len ≤ ss.length) (hcell : ∀ i, i < ss.length → w.cell? (x.add i) = some (.string (ss.getD i ByteArray.empty))) (hw : ∀ s ∈ ss, s.size ≤ maxLen) :
    Reads w (.slice (some x) len cap) (ss.take len) ∧ ∀ i, (tv (ss.take len) i).size ≤ maxLen := by
  have hlen : (ss.take len).length = len := by simp; omega
  constructor
  · by_cases e : len = 0
    · subst e
      exact .inl ⟨by simp, some x, cap, rfl⟩
    · obtain ⟨b, off, spot⟩ := x
      have hspot : spot = none := by simpa [Addr.add] using World.cell?_spot (hcell 0 (by omega))
      subst hspot
      have ea : ∀ i, (⟨b, off, none⟩ : Addr).add i = ⟨b, off + i, none⟩ := fun i => by simp [Addr.add]
      have h0 := hcell 0 (by omega)
      rw [ea] at h0
      refine .inr ⟨b, off, cap, by rw [hlen], World.block_lt_of_cell? w _ h0, fun i hi => ?_⟩
      rw [hlen] at hi
      have hc := hcell i (by omega)
      rw [ea] at hc
      rw [hc]
      simp [hi]
  · intro i
    unfold tv
    by_cases hi : i < (ss.take len).length
    · rw [List.getD_eq_getElem?_getD, List.getElem?_eq_getElem hi]
      exact hw _ (List.mem_of_mem_take (List.getElem_mem hi))
    · rw [List.getD_eq_getElem?_getD, List.getElem?_eq_none (by omega)]; simp
theorem cellsStrs : Tryz.prog.cellsOf 23 = 1 := by kernel_rfl
theorem cells4 : Tryz.prog.cellsOf 4 = 1 := by kernel_rfl
theorem cellsAPeer : Tryz.prog.cellsOf 78 = 5 := by kernel_rfl
theorem cellsAStore : Tryz.prog.cellsOf 25 = 4 := by kernel_rfl
theorem cellsAItems : Tryz.prog.cellsOf 22 = 1 := by kernel_rfl
theorem cellsAPeers : Tryz.prog.cellsOf 26 = 1 := by kernel_rfl
theorem cellsAFetch : Tryz.prog.cellsOf 28 = 8 := by kernel_rfl
theorem open_texts {H : Type} {enc : TypeId × Value → H} {W : World} {fuel : Nat} {v : Value} {x : DataW H × List MemPlace} (h : DataW.trod enc Tryz.prog W 0 (fun _ => true) true fuel 23 [v] = some x) :
    ∃ ts, Reads W v ts ∧ ts.length ≤ maxLen ∧ ∀ i, (tv ts i).size ≤ maxLen := by
  rcases open_strings Tryz.underlying23 Tryz.underlying9 (by kernel_rfl) h with ⟨hcs, _⟩ | ⟨x, l, c, ss, hcs, _, hl, hm, hz, hx, hcell, hwz⟩
  · simp at hcs
    subst hcs
    exact ⟨[], .inl ⟨rfl, none, 0, rfl⟩, by simp, fun i => by simp [tv]⟩
  · simp at hcs
    subst hcs
    simp only [if_true] at hz
    have hsz : l ≤ ss.length := by rw [hz]; exact hl
    have h2 := reads_slice (cap := c) hsz hcell hwz
    exact ⟨ss.take l, h2.1, by rw [List.length_take]; exact Nat.le_trans (Nat.min_le_left _ _) (Nat.le_trans hl hm), h2.2⟩
set_option maxRecDepth 100000 in
theorem open_peers {H : Type} {enc : TypeId × Value → H} {W : World} {fuel : Nat} {v : Value} {x : DataW H × List MemPlace} (h : DataW.trod enc Tryz.prog W 0 (fun _ => true) true fuel 26 [v] = some x) :
    ∃ ps : Prs, RdP W v ps ∧ ps.length ≤ maxLen ∧ PsFit maxLen ps := by
  rcases DataW.trod_slice Tryz.underlying26 h with ⟨hcs, _⟩ | ⟨a, len, cap, elems, rest, n, _, hcs, _, _, hl, hm, hlen, hel, _, _⟩
  · simp at hcs
    subst hcs
    exact ⟨[], ⟨none, 0, rfl, fun i hi => absurd hi (by simp)⟩, by simp, fun i hi => absurd hi (by simp)⟩
  · simp at hcs
    subst hcs
    have each : ∀ i, i < len → ∃ p : Pr, PrFits maxLen p ∧ ∃ vn, W.cell? (a.add (i * 5)) = some (.int .i64 p.lies) ∧ W.cell? (a.add (i * 5 + 1)) = some (.int .i64 p.wait) ∧ W.cell? (a.add (i * 5 + 2)) = some (.int .i64 p.last) ∧ W.cell? (a.add (i * 5 + 3)) = some (.string p.asked) ∧ W.cell? (a.add (i * 5 + 4)) = some vn ∧ Reads W vn p.nots := by
      intro i hi
      have h1 := hel i hi
      rw [cellsAPeer, List.getElem?_eq_getElem (by omega), Option.bind_eq_some_iff] at h1
      obtain ⟨cs, h2, h3⟩ := h1
      obtain ⟨hc1, hc2⟩ : cs.length = 5 ∧ ∀ j, j < 5 → W.cell? ((a.add (i * 5)).add j) = cs[j]? := by
        exact (World.cells?_some h2).2
      obtain ⟨xs, m, _, _, _, hxl, hf⟩ := DataW.trod_struct Tryz.underlying78 h3
      match cs, hc1 with
      | [c0, c1, c2, c3, c4], _ =>
        match xs, hxl with
        | [y0, y1, y2, y3, y4], _ =>
          have g0 : DataW.trod enc Tryz.prog W 0 (fun _ => true) true m 3 [c0] = some y0 := by simpa [cells3] using hf 0 _ rfl
          have g1 : DataW.trod enc Tryz.prog W 0 (fun _ => true) true m 3 [c1] = some y1 := by simpa [cells3] using hf 1 _ rfl
          have g2 : DataW.trod enc Tryz.prog W 0 (fun _ => true) true m 3 [c2] = some y2 := by simpa [cells3] using hf 2 _ rfl
          have g3 : DataW.trod enc Tryz.prog W 0 (fun _ => true) true m 9 [c3] = some y3 := by simpa [cells9] using hf 3 _ rfl
          have g4 : DataW.trod enc Tryz.prog W 0 (fun _ => true) true m 23 [c4] = some y4 := by simpa [cellsStrs] using hf 4 _ rfl
          obtain ⟨u0, e0, _, _⟩ := DataW.trod_int Tryz.underlying3 g0
          obtain ⟨u1, e1, _, _⟩ := DataW.trod_int Tryz.underlying3 g1
          obtain ⟨u2, e2, _, _⟩ := DataW.trod_int Tryz.underlying3 g2
          obtain ⟨s, e3, _, hw⟩ := DataW.trod_string Tryz.underlying9 g3
          obtain ⟨ts, hr, hl1, hl2⟩ := open_texts g4
          simp at e0 e1 e2 e3
          subst e0 e1 e2 e3
          refine ⟨⟨u0, u1, u2, s, ts⟩, ⟨hw, hl1, hl2⟩, c4, ?_, ?_, ?_, ?_, ?_, hr⟩
          · have := hc2 0 (by omega)
            simpa [Addr.add] using this
          · have := hc2 1 (by omega)
            rw [Addr.add_add] at this
            simpa using this
          · have := hc2 2 (by omega)
            rw [Addr.add_add] at this
            simpa using this
          · have := hc2 3 (by omega)
            rw [Addr.add_add] at this
            simpa using this
          · have := hc2 4 (by omega)
            rw [Addr.add_add] at this
            simpa using this
    obtain ⟨ps, hn, hq⟩ := list_of pr0 _ len each
    subst hn
    refine ⟨ps, ⟨some a, cap, rfl, fun i hi => ?_⟩, Nat.le_trans hl hm, fun i hi => (hq i hi).1⟩
    obtain ⟨b, off, spot⟩ := a
    obtain ⟨_, vn, q0, q1, q2, q3, q4, q5⟩ := hq i hi
    have hspot : spot = none := by
      obtain ⟨_, _, this, _⟩ := hq 0 (by omega)
      simpa [Addr.add] using World.cell?_spot this
    subst hspot
    have ea : ∀ j, (⟨b, off, none⟩ : Addr).add j = ⟨b, off + j, none⟩ := fun j => by simp [Addr.add]
    rw [ea] at q0 q1 q2 q3 q4
    exact ⟨b, off, vn, rfl, World.block_lt_of_cell? W _ q0, q0, by rw [Nat.add_assoc]; exact q1, by rw [Nat.add_assoc]; exact q2, by rw [Nat.add_assoc]; exact q3, by rw [Nat.add_assoc]; exact q4, q5⟩
set_option maxRecDepth 100000 in
theorem open_fetch {H : Type} {enc : TypeId × Value → H} {W : World} {base : Nat} {v : Value} {d : DataW H} {p : List MemPlace} (hv : Value.okWide Tryz.prog W .any base 28 v) (h : DataW.Trod enc Tryz.prog W 0 (fun _ => true) true 28 v d p) :
    ∃ (nm : ByteArray) (now : Int) (full : Bool) (wd room : Int) (vi vp vq : Value) (its : Itms) (ts : List ByteArray) (ps : Prs), v = fval nm now full wd room vi vp vq ∧ RdI W vi its ∧ Reads W vp ts ∧ RdP W vq ps ∧ nm.size ≤ maxLen ∧ its.length ≤ maxLen ∧ ts.length ≤ maxLen ∧ ps.length ≤ maxLen ∧ (∀ i, (itx its i).size ≤ maxLen) ∧ (∀ i, (tv ts i).size ≤ maxLen) ∧ PsFit maxLen ps := by
  obtain ⟨cs, rfl, hsz⟩ := okWide_struct Tryz.underlying28 hv
  rw [cellsAFetch] at hsz
  obtain ⟨l⟩ := cs
  obtain ⟨fuel, hf0⟩ := h
  have hf1 : DataW.trod enc Tryz.prog W 0 (fun _ => true) true fuel 28 l = some (d, p) := hf0
  obtain ⟨xs, m, _, _, _, hxl, hf⟩ := DataW.trod_struct Tryz.underlying28 hf1
  have hl : l.length = 8 := by simpa using hsz
  match l, hl with
  | [c0, c1, c2, c3, c4, c5, c6, c7], _ =>
    match xs, hxl with
    | [y0, y1, y2, y3, y4], _ =>
      have g0 : DataW.trod enc Tryz.prog W 0 (fun _ => true) true m 9 [c0] = some y0 := by simpa [cells9] using hf 0 _ rfl
      have g1 : DataW.trod enc Tryz.prog W 0 (fun _ => true) true m 3 [c1] = some y1 := by simpa [cells3] using hf 1 _ rfl
      have g2 : DataW.trod enc Tryz.prog W 0 (fun _ => true) true m 4 [c2] = some y2 := by simpa [cells4] using hf 2 _ rfl
      have g3 : DataW.trod enc Tryz.prog W 0 (fun _ => true) true m 25 [c3, c4, c5, c6] = some y3 := by simpa [cellsAStore] using hf 3 _ rfl
      have g4 : DataW.trod enc Tryz.prog W 0 (fun _ => true) true m 26 [c7] = some y4 := by simpa [cellsAPeers] using hf 4 _ rfl
      obtain ⟨zs, n, _, _, _, hzl, hg⟩ := DataW.trod_struct Tryz.underlying25 g3
      match zs, hzl with
      | [z0, z1, z2, z3], _ =>
        have k0 : DataW.trod enc Tryz.prog W 0 (fun _ => true) true n 3 [c3] = some z0 := by simpa [cells3] using hg 0 _ rfl
        have k1 : DataW.trod enc Tryz.prog W 0 (fun _ => true) true n 3 [c4] = some z1 := by simpa [cells3] using hg 1 _ rfl
        have k2 : DataW.trod enc Tryz.prog W 0 (fun _ => true) true n 22 [c5] = some z2 := by simpa [cellsAItems] using hg 2 _ rfl
        have k3 : DataW.trod enc Tryz.prog W 0 (fun _ => true) true n 23 [c6] = some z3 := by simpa [cellsStrs] using hg 3 _ rfl
        obtain ⟨nm, e0, _, hw⟩ := DataW.trod_string Tryz.underlying9 g0
        obtain ⟨now, e1, _, _⟩ := DataW.trod_int Tryz.underlying3 g1
        obtain ⟨full, e2, _⟩ := DataW.trod_bool Tryz.underlying4 g2
        obtain ⟨wd, e3, _, _⟩ := DataW.trod_int Tryz.underlying3 k0
        obtain ⟨room, e4, _, _⟩ := DataW.trod_int Tryz.underlying3 k1
        obtain ⟨its, hi, hi1, hi2⟩ := open_items k2
        obtain ⟨ts, hp, hp1, hp2⟩ := open_texts k3
        obtain ⟨ps, hq, hq1, hq2⟩ := open_peers g4
        simp at e0 e1 e2 e3 e4
        subst e0 e1 e2 e3 e4
        exact ⟨nm, now, full, wd, room, c5, c6, c7, its, ts, ps, rfl, hi, hp, hq, hw, hi1, hp1, hq1, hi2, hp2, hq2⟩
end Go.Proofs.YtlnkhbnbcmllaaaGreat
/- Worlds that came in. -/
namespace Go.Proofs.YtlnkhbnbcmllaaaGreat
open Go.ChangeShapes Go.WideShapes Go.ChangeAt Go.RowKit
set_option maxRecDepth 100000 in
theorem open_stores {H : Type} {enc : TypeId × Value → H} {W : World} {fuel : Nat} {v : Value} {x : DataW H × List MemPlace} (h : DataW.trod enc Tryz.prog W 0 (fun _ => true) true fuel 29 [v] = some x) :
    ∃ ss : Srs, RdS W v ss ∧ ss.length ≤ maxLen ∧ SsFit maxLen ss := by
  rcases DataW.trod_slice Tryz.underlying29 h with ⟨hcs, _⟩ | ⟨a, len, cap, elems, rest, n, _, hcs, _, _, hl, hm, hlen, hel, _, _⟩
  · simp at hcs
    subst hcs
    exact ⟨[], ⟨none, 0, rfl, fun i hi => absurd hi (by simp)⟩, by simp, fun i hi => absurd hi (by simp)⟩
  · simp at hcs
    subst hcs
    have each : ∀ i, i < len → ∃ p : Sr, SrFits maxLen p ∧ ∃ vi vp, W.cell? (a.add (i * 4)) = some (.int .i64 p.wd) ∧ W.cell? (a.add (i * 4 + 1)) = some (.int .i64 p.room) ∧ W.cell? (a.add (i * 4 + 2)) = some vi ∧ W.cell? (a.add (i * 4 + 3)) = some vp ∧ RdI W vi p.its ∧ Reads W vp p.ts := by
      intro i hi
      have h1 := hel i hi
      rw [cellsAStore, List.getElem?_eq_getElem (by omega), Option.bind_eq_some_iff] at h1
      obtain ⟨cs, h2, h3⟩ := h1
      obtain ⟨hc1, hc2⟩ : cs.length = 4 ∧ ∀ j, j < 4 → W.cell? ((a.add (i * 4)).add j) = cs[j]? := by
        exact (World.cells?_some h2).2
      obtain ⟨xs, m, _, _, _, hxl, hf⟩ := DataW.trod_struct Tryz.underlying25 h3
      match cs, hc1 with
      | [c0, c1, c2, c3], _ =>
        match xs, hxl with
        | [y0, y1, y2, y3], _ =>
          have g0 : DataW.trod enc Tryz.prog W 0 (fun _ => true) true m 3 [c0] = some y0 := by simpa [cells3] using hf 0 _ rfl
          have g1 : DataW.trod enc Tryz.prog W 0 (fun _ => true) true m 3 [c1] = some y1 := by simpa [cells3] using hf 1 _ rfl
          have g2 : DataW.trod enc Tryz.prog W 0 (fun _ => true) true m 22 [c2] = some y2 := by simpa [cellsAItems] using hf 2 _ rfl
          have g3 : DataW.trod enc Tryz.prog W 0 (fun _ => true) true m 23 [c3] = some y3 := by simpa [cellsStrs] using hf 3 _ rfl
          obtain ⟨u0, e0, _, _⟩ := DataW.trod_int Tryz.underlying3 g0
          obtain ⟨u1, e1, _, _⟩ := DataW.trod_int Tryz.underlying3 g1
          obtain ⟨its, ri, li, si⟩ := open_items g2
          obtain ⟨ts, rp, lp, sp⟩ := open_texts g3
          simp at e0 e1
          subst e0 e1
          refine ⟨⟨u0, u1, its, ts⟩, ⟨li, si, lp, sp⟩, c2, c3, ?_, ?_, ?_, ?_, ri, rp⟩
          · have := hc2 0 (by omega)
            simpa [Addr.add] using this
          · have := hc2 1 (by omega)
            rw [Addr.add_add] at this
            simpa using this
          · have := hc2 2 (by omega)
            rw [Addr.add_add] at this
            simpa using this
          · have := hc2 3 (by omega)
            rw [Addr.add_add] at this
            simpa using this
    obtain ⟨ss, hn, hq⟩ := list_of sr0 _ len each
    subst hn
    refine ⟨ss, ⟨some a, cap, rfl, fun i hi => ?_⟩, Nat.le_trans hl hm, fun i hi => (hq i hi).1⟩
    obtain ⟨b, off, spot⟩ := a
    obtain ⟨_, vi, vp, q0, q1, q2, q3, q4, q5⟩ := hq i hi
    have hspot : spot = none := by
      obtain ⟨_, _, _, this, _⟩ := hq 0 (by omega)
      simpa [Addr.add] using World.cell?_spot this
    subst hspot
    have ea : ∀ j, (⟨b, off, none⟩ : Addr).add j = ⟨b, off + j, none⟩ := fun j => by simp [Addr.add]
    rw [ea] at q0 q1 q2 q3
    exact ⟨b, off, vi, vp, rfl, World.block_lt_of_cell? W _ q0, q0, by rw [Nat.add_assoc]; exact q1, by rw [Nat.add_assoc]; exact q2, by rw [Nat.add_assoc]; exact q3, q4, q5⟩
end Go.Proofs.YtlnkhbnbcmllaaaGreat
