import Derived.Test.YtiflibkabmkloaaItems
import Derived.Lib.SmallJoins
import Derived.Below
import Derived.DataElems
import Derived.WalkKit
import Derived.ProofKit
import Derived.OpenShut
import Derived.ShutString
import Derived.ChangeOld
import Derived.SliceStrings
import Derived.Test.YtiflibkabmkloaaPeers
import Derived.Test.YtiflibkabmkloaaWorlds
import Derived.Test.YtiflibkabmkloaaWorldOpen
import Derived.Test.YtiflibkabmkloaaWorldTo2
/- A slice of items that came in, as a list. -/
namespace Go.Proofs.Ytiflibkabmkloaa
open Go.ChangeShapes Go.WideShapes Go.ChangeAt Go.RowKit
theorem list_of {α : Type} (d : α) (Q : Nat → α → Prop) : ∀ n : Nat, (∀ i, i < n → ∃ p, Q i p) → ∃ l : List α, l.length = n ∧ ∀ i, i < n → Q i (l.getD i d)
  | 0, _ => ⟨[], rfl, fun i hi => absurd hi (by omega)⟩
  | n + 1, h => by
    obtain ⟨l, hl, hq⟩ := list_of d Q n fun i hi => h i (by omega)
    obtain ⟨p, hp⟩ := h n (by omega)
    refine ⟨l ++ [p], by simp [hl], fun i hi => ?_⟩
    rcases Nat.lt_or_eq_of_le (Nat.le_of_lt_succ hi) with h1 | h1
    · rw [List.getD_eq_getElem?_getD, List.getElem?_append_left (by omega), ← List.getD_eq_getElem?_getD]
      exact hq i h1
    · subst hl
      subst h1
      simpa using hp
theorem cellsItem : Try.prog.cellsOf 119 = 2 := by kernel_rfl
theorem cells9 : Try.prog.cellsOf 9 = 1 := by kernel_rfl
theorem cells3 : Try.prog.cellsOf 3 = 1 := by kernel_rfl
set_option maxRecDepth 100000 in
theorem open_items {H : Type} {enc : TypeId × Value → H} {W : World} {base : Nat} {spare : Nat → Bool} {held : Bool} {fuel : Nat} {v : Value} {x : DataW H × List MemPlace} (h : DataW.trod enc Try.prog W base spare held fuel 22 [v] = some x) :
    ∃ its : Itms, RdI W v its ∧ its.length ≤ maxLen ∧ ∀ i, (itx its i).size ≤ maxLen := by
  rcases DataW.trod_slice Try.underlying22 h with ⟨hcs, _⟩ | ⟨a, len, cap, elems, rest, n, _, hcs, _, _, hl, hm, hlen, hel, _, _⟩
  · simp at hcs
    subst hcs
    exact ⟨[], ⟨none, 0, rfl, fun i hi => absurd hi (by simp)⟩, by simp, fun i => by simp [itx]⟩
  · simp at hcs
    subst hcs
    have each : ∀ i, i < len → ∃ p : ByteArray × Int, p.1.size ≤ maxLen ∧ W.cell? (a.add (i * 2)) = some (.string p.1) ∧ W.cell? (a.add (i * 2 + 1)) = some (.int .i64 p.2) := by
      intro i hi
      have h1 := hel i hi
      rw [cellsItem, List.getElem?_eq_getElem (by omega), Option.bind_eq_some_iff] at h1
      obtain ⟨cs, h2, h3⟩ := h1
      obtain ⟨hc1, hc2⟩ : cs.length = 2 ∧ ∀ j, j < 2 → W.cell? ((a.add (i * 2)).add j) = cs[j]? := by
        exact (World.cells?_some h2).2
      obtain ⟨xs, m, _, _, _, hxl, hf⟩ := DataW.trod_struct Try.underlying119 h3
      match cs, hc1 with
      | [c0, c1], _ =>
        match xs, hxl with
        | [y0, y1], _ =>
          have g0 : DataW.trod enc Try.prog W base spare held m 9 [c0] = some y0 := by simpa [cells9] using hf 0 _ rfl
          have g1 : DataW.trod enc Try.prog W base spare held m 3 [c1] = some y1 := by simpa [cells3] using hf 1 _ rfl
          obtain ⟨s, e0, _, hw⟩ := DataW.trod_string Try.underlying9 g0
          obtain ⟨u, e1, _, _⟩ := DataW.trod_int Try.underlying3 g1
          simp at e0 e1
          subst e0 e1
          refine ⟨(s, u), hw, ?_, ?_⟩
          · have := hc2 0 (by omega)
            simpa [Addr.add] using this
          · have := hc2 1 (by omega)
            rw [Addr.add_add] at this
            simpa using this
    obtain ⟨its, hn, hq⟩ := list_of (ByteArray.empty, (0 : Int)) _ len each
    subst hn
    refine ⟨its, ⟨some a, cap, rfl, fun i hi => ?_⟩, Nat.le_trans hl hm, fun i => ?_⟩
    · obtain ⟨b, off, spot⟩ := a
      obtain ⟨_, q1, q2⟩ := hq i hi
      have hspot : spot = none := by
        have := (hq 0 (by omega)).2.1
        simpa [Addr.add] using World.cell?_spot this
      subst hspot
      have ea : ∀ j, (⟨b, off, none⟩ : Addr).add j = ⟨b, off + j, none⟩ := fun j => by simp [Addr.add]
      rw [ea] at q1 q2
      exact ⟨b, off, rfl, World.block_lt_of_cell? W _ q1, q1, by rw [Nat.add_assoc]; exact q2⟩
    · by_cases hi : i < its.length
      · exact (hq i hi).1
      · have : itx its i = ByteArray.empty := by simp [itx, hi]
        rw [this]; simp
end Go.Proofs.Ytiflibkabmkloaa
/- Peers and fetches that came in. -/
namespace Go.Proofs.Ytiflibkabmkloaa
open Go.ChangeShapes Go.WideShapes Go.ChangeAt Go.RowKit
theorem reads_slice {w : World} {x : Addr} {len cap : Nat} {ss : List ByteArray} (hl : len ≤ ss.length) (hcell : ∀ i, i < ss.length → w.cell? (x.add i) = some (.string (ss.getD i ByteArray.empty))) (hw : ∀ s ∈ ss, s.size ≤ maxLen) :
    Reads w (.slice (some x) len cap) (ss.take len) ∧ ∀ i, (tv (ss.take len) i).size ≤ maxLen := by
  have hlen : (ss.take len).length = len := by simp; omega
  constructor
  · by_cases e : len = 0
    · subst e
      exact .inl ⟨by simp, some x, cap, rfl⟩
    · obtain ⟨b, off, spot⟩ := x
      have hspot : spot = none := by simpa [Addr.add] using World.cell?_spot (hcell 0 (by omega))
      subst hspot
      have ea : ∀ i, (⟨b, off, none⟩ : Addr).add i = ⟨b, off + i, none⟩ := fun i => by simp [Addr.add]
      have h0 := hcell 0 (by omega)
      rw [ea] at h0
      refine .inr ⟨b, off, cap, by rw [hlen], World.block_lt_of_cell? w _ h0, fun i hi => ?_⟩
      rw [hlen] at hi
      have hc := hcell i (by omega)
      rw [ea] at hc
      rw [hc]
      simp [hi]
  · intro i
    unfold tv
    by_cases hi : i < (ss.take len).length
    · rw [List.getD_eq_getElem?_getD, List.getElem?_eq_getElem hi]
      exact hw _ (List.mem_of_mem_take (List.getElem_mem hi))
    · rw [List.getD_eq_getElem?_getD, List.getElem?_eq_none (by omega)]; simp
theorem cellsStrs : Try.prog.cellsOf 23 = 1 := by kernel_rfl
theorem cells4 : Try.prog.cellsOf 4 = 1 := by kernel_rfl
theorem cellsAPeer : Try.prog.cellsOf 85 = 5 := by kernel_rfl
theorem cellsAStore : Try.prog.cellsOf 25 = 4 := by kernel_rfl
theorem cellsAItems : Try.prog.cellsOf 22 = 1 := by kernel_rfl
theorem cellsAPeers : Try.prog.cellsOf 26 = 1 := by kernel_rfl
theorem cellsAFetch : Try.prog.cellsOf 28 = 8 := by kernel_rfl
theorem open_texts {H : Type} {enc : TypeId × Value → H} {W : World} {fuel : Nat} {v : Value} {x : DataW H × List MemPlace} (h : DataW.trod enc Try.prog W 0 (fun _ => true) true fuel 23 [v] = some x) :
    ∃ ts, Reads W v ts ∧ ts.length ≤ maxLen ∧ ∀ i, (tv ts i).size ≤ maxLen := by
  rcases open_strings Try.underlying23 Try.underlying9 (by kernel_rfl) h with ⟨hcs, _⟩ | ⟨x, l, c, ss, hcs, _, hl, hm, hz, hx, hcell, hwz⟩
  · simp at hcs
    subst hcs
    exact ⟨[], .inl ⟨rfl, none, 0, rfl⟩, by simp, fun i => by simp [tv]⟩
  · simp at hcs
    subst hcs
    simp only [if_true] at hz
    have hsz : l ≤ ss.length := by rw [hz]; exact hl
    have h2 := reads_slice (cap := c) hsz hcell hwz
    exact ⟨ss.take l, h2.1, by rw [List.length_take]; exact Nat.le_trans (Nat.min_le_left _ _) (Nat.le_trans hl hm), h2.2⟩
set_option maxRecDepth 100000 in
theorem open_peers {H : Type} {enc : TypeId × Value → H} {W : World} {fuel : Nat} {v : Value} {x : DataW H × List MemPlace} (h : DataW.trod enc Try.prog W 0 (fun _ => true) true fuel 26 [v] = some x) :
    ∃ ps : Prs, RdP W v ps ∧ ps.length ≤ maxLen ∧ PsFit maxLen ps := by
  rcases DataW.trod_slice Try.underlying26 h with ⟨hcs, _⟩ | ⟨a, len, cap, elems, rest, n, _, hcs, _, _, hl, hm, hlen, hel, _, _⟩
  · simp at hcs
    subst hcs
    exact ⟨[], ⟨none, 0, rfl, fun i hi => absurd hi (by simp)⟩, by simp, fun i hi => absurd hi (by simp)⟩
  · simp at hcs
    subst hcs
    have each : ∀ i, i < len → ∃ p : Pr, PrFits maxLen p ∧ ∃ vn, W.cell? (a.add (i * 5)) = some (.int .i64 p.lies) ∧ W.cell? (a.add (i * 5 + 1)) = some (.int .i64 p.wait) ∧ W.cell? (a.add (i * 5 + 2)) = some (.int .i64 p.last) ∧ W.cell? (a.add (i * 5 + 3)) = some (.string p.asked) ∧ W.cell? (a.add (i * 5 + 4)) = some vn ∧ Reads W vn p.nots := by
      intro i hi
      have h1 := hel i hi
      rw [cellsAPeer, List.getElem?_eq_getElem (by omega), Option.bind_eq_some_iff] at h1
      obtain ⟨cs, h2, h3⟩ := h1
      obtain ⟨hc1, hc2⟩ : cs.length = 5 ∧ ∀ j, j < 5 → W.cell? ((a.add (i * 5)).add j) = cs[j]? := by
        exact (World.cells?_some h2).2
      obtain ⟨xs, m, _, _, _, hxl, hf⟩ := DataW.trod_struct Try.underlying85 h3
      match cs, hc1 with
      | [c0, c1, c2, c3, c4], _ =>
        match xs, hxl with
        | [y0, y1, y2, y3, y4], _ =>
          have g0 : DataW.trod enc Try.prog W 0 (fun _ => true) true m 3 [c0] = some y0 := by simpa [cells3] using hf 0 _ rfl
          have g1 : DataW.trod enc Try.prog W 0 (fun _ => true) true m 3 [c1] = some y1 := by simpa [cells3] using hf 1 _ rfl
          have g2 : DataW.trod enc Try.prog W 0 (fun _ => true) true m 3 [c2] = some y2 := by simpa [cells3] using hf 2 _ rfl
          have g3 : DataW.trod enc Try.prog W 0 (fun _ => true) true m 9 [c3] = some y3 := by simpa [cells9] using hf 3 _ rfl
          have g4 : DataW.trod enc Try.prog W 0 (fun _ => true) true m 23 [c4] = some y4 := by simpa [cellsStrs] using hf 4 _ rfl
          obtain ⟨u0, e0, _, _⟩ := DataW.trod_int Try.underlying3 g0
          obtain ⟨u1, e1, _, _⟩ := DataW.trod_int Try.underlying3 g1
          obtain ⟨u2, e2, _, _⟩ := DataW.trod_int Try.underlying3 g2
          obtain ⟨s, e3, _, hw⟩ := DataW.trod_string Try.underlying9 g3
          obtain ⟨ts, hr, hl1, hl2⟩ := open_texts g4
          simp at e0 e1 e2 e3
          subst e0 e1 e2 e3
          refine ⟨⟨u0, u1, u2, s, ts⟩, ⟨hw, hl1, hl2⟩, c4, ?_, ?_, ?_, ?_, ?_, hr⟩
          · have := hc2 0 (by omega)
            simpa [Addr.add] using this
          · have := hc2 1 (by omega)
            rw [Addr.add_add] at this
            simpa using this
          · have := hc2 2 (by omega)
            rw [Addr.add_add] at this
            simpa using this
          · have := hc2 3 (by omega)
            rw [Addr.add_add] at this
            simpa using this
          · have := hc2 4 (by omega)
            rw [Addr.add_add] at this
            simpa using this
    obtain ⟨ps, hn, hq⟩ := list_of pr0 _ len each
    subst hn
    refine ⟨ps, ⟨some a, cap, rfl, fun i hi => ?_⟩, Nat.le_trans hl hm, fun i hi => (hq i hi).1⟩
    obtain ⟨b, off, spot⟩ := a
    obtain ⟨_, vn, q0, q1, q2, q3, q4, q5⟩ := hq i hi
    have hspot : spot = none := by
      obtain ⟨_, _, this, _⟩ := hq 0 (by omega)
      simpa [Addr.add] using World.cell?_spot this
    subst hspot
    have ea : ∀ j, (⟨b, off, none⟩ : Addr).add j = ⟨b, off + j, none⟩ := fun j => by simp [Addr.add]
    rw [ea] at q0 q1 q2 q3 q4
    exact ⟨b, off, vn, rfl, World.block_lt_of_cell? W _ q0, q0, by rw [Nat.add_assoc]; exact q1, by rw [Nat.add_assoc]; exact q2, by rw [Nat.add_assoc]; exact q3, by rw [Nat.add_assoc]; exact q4, q5⟩
set_option maxRecDepth 100000 in
theorem open_fetch {H : Type} {enc : TypeId × Value → H} {W : World} {base : Nat} {v : Value} {d : DataW H} {p : List MemPlace} (hv : Value.okWide Try.prog W .any base 28 v) (h : DataW.Trod enc Try.prog W 0 (fun _ => true) true 28 v d p) :
    ∃ (nm : ByteArray) (now : Int) (full : Bool) (wd room : Int) (vi vp vq : Value) (its : Itms) (ts : List ByteArray) (ps : Prs), v = fval nm now full wd room vi vp vq ∧ RdI W vi its ∧ Reads W vp ts ∧ RdP W vq ps ∧ nm.size ≤ maxLen ∧ its.length ≤ maxLen ∧ ts.length ≤ maxLen ∧ ps.length ≤ maxLen ∧ (∀ i, (itx its i).size ≤ maxLen) ∧ (∀ i, (tv ts i).size ≤ maxLen) ∧ PsFit maxLen ps := by
  obtain ⟨cs, rfl, hsz⟩ := okWide_struct Try.underlying28 hv
  rw [cellsAFetch] at hsz
  obtain ⟨l⟩ := cs
  obtain ⟨fuel, hf0⟩ := h
  have hf1 : DataW.trod enc Try.prog W 0 (fun _ => true) true fuel 28 l = some (d, p) := hf0
  obtain ⟨xs, m, _, _, _, hxl, hf⟩ := DataW.trod_struct Try.underlying28 hf1
  have hl : l.length = 8 := by simpa using hsz
  match l, hl with
  | [c0, c1, c2, c3, c4, c5, c6, c7], _ =>
    match xs, hxl with
    | [y0, y1, y2, y3, y4], _ =>
      have g0 : DataW.trod enc Try.prog W 0 (fun _ => true) true m 9 [c0] = some y0 := by simpa [cells9] using hf 0 _ rfl
      have g1 : DataW.trod enc Try.prog W 0 (fun _ => true) true m 3 [c1] = some y1 := by simpa [cells3] using hf 1 _ rfl
      have g2 : DataW.trod enc Try.prog W 0 (fun _ => true) true m 4 [c2] = some y2 := by simpa [cells4] using hf 2 _ rfl
      have g3 : DataW.trod enc Try.prog W 0 (fun _ => true) true m 25 [c3, c4, c5, c6] = some y3 := by simpa [cellsAStore] using hf 3 _ rfl
      have g4 : DataW.trod enc Try.prog W 0 (fun _ => true) true m 26 [c7] = some y4 := by simpa [cellsAPeers] using hf 4 _ rfl
      obtain ⟨zs, n, _, _, _, hzl, hg⟩ := DataW.trod_struct Try.underlying25 g3
      match zs, hzl with
      | [z0, z1, z2, z3], _ =>
        have k0 : DataW.trod enc Try.prog W 0 (fun _ => true) true n 3 [c3] = some z0 := by simpa [cells3] using hg 0 _ rfl
        have k1 : DataW.trod enc Try.prog W 0 (fun _ => true) true n 3 [c4] = some z1 := by simpa [cells3] using hg 1 _ rfl
        have k2 : DataW.trod enc Try.prog W 0 (fun _ => true) true n 22 [c5] = some z2 := by simpa [cellsAItems] using hg 2 _ rfl
        have k3 : DataW.trod enc Try.prog W 0 (fun _ => true) true n 23 [c6] = some z3 := by simpa [cellsStrs] using hg 3 _ rfl
        obtain ⟨nm, e0, _, hw⟩ := DataW.trod_string Try.underlying9 g0
        obtain ⟨now, e1, _, _⟩ := DataW.trod_int Try.underlying3 g1
        obtain ⟨full, e2, _⟩ := DataW.trod_bool Try.underlying4 g2
        obtain ⟨wd, e3, _, _⟩ := DataW.trod_int Try.underlying3 k0
        obtain ⟨room, e4, _, _⟩ := DataW.trod_int Try.underlying3 k1
        obtain ⟨its, hi, hi1, hi2⟩ := open_items k2
        obtain ⟨ts, hp, hp1, hp2⟩ := open_texts k3
        obtain ⟨ps, hq, hq1, hq2⟩ := open_peers g4
        simp at e0 e1 e2 e3 e4
        subst e0 e1 e2 e3 e4
        exact ⟨nm, now, full, wd, room, c5, c6, c7, its, ts, ps, rfl, hi, hp, hq, hw, hi1, hp1, hq1, hi2, hp2, hq2⟩
end Go.Proofs.Ytiflibkabmkloaa
/- Worlds that came in. -/
namespace Go.Proofs.Ytiflibkabmkloaa
open Go.ChangeShapes Go.WideShapes Go.ChangeAt Go.RowKit
theorem cellsAMsg : Try.prog.cellsOf 110 = 5 := by kernel_rfl
theorem cellsAWorld : Try.prog.cellsOf 44 = 12 := by kernel_rfl
theorem cellsBools : Try.prog.cellsOf 40 = 1 := by kernel_rfl
theorem cellsAStores : Try.prog.cellsOf 41 = 1 := by kernel_rfl
theorem cellsAMsgs : Try.prog.cellsOf 42 = 1 := by kernel_rfl
set_option maxRecDepth 100000 in
theorem open_bools {H : Type} {enc : TypeId × Value → H} {W : World} {fuel : Nat} {v : Value} {x : DataW H × List MemPlace} (h : DataW.trod enc Try.prog W 0 (fun _ => true) true fuel 40 [v] = some x) :
    ∃ bs : List Bool, RdB W v bs ∧ bs.length ≤ maxLen := by
  rcases DataW.trod_slice Try.underlying40 h with ⟨hcs, _⟩ | ⟨a, len, cap, elems, rest, n, _, hcs, _, _, hl, hm, hlen, hel, _, _⟩
  · simp at hcs
    subst hcs
    exact ⟨[], ⟨none, 0, rfl, fun i hi => absurd hi (by simp)⟩, by simp⟩
  · simp at hcs
    subst hcs
    have each : ∀ i, i < len → ∃ p : Bool, W.cell? (a.add i) = some (.bool p) := by
      intro i hi
      have h1 := hel i hi
      rw [cells4, List.getElem?_eq_getElem (by omega), Option.bind_eq_some_iff] at h1
      obtain ⟨cs, h2, h3⟩ := h1
      obtain ⟨hc1, hc2⟩ : cs.length = 1 ∧ ∀ j, j < 1 → W.cell? ((a.add (i * 1)).add j) = cs[j]? := by
        exact (World.cells?_some h2).2
      match cs, hc1 with
      | [c0], _ =>
        obtain ⟨u, e0, _⟩ := DataW.trod_bool Try.underlying4 h3
        simp at e0
        subst e0
        refine ⟨u, ?_⟩
        have := hc2 0 (by omega)
        simpa [Addr.add] using this
    obtain ⟨bs, hn, hq⟩ := list_of false _ len each
    subst hn
    refine ⟨bs, ⟨some a, cap, rfl, fun i hi => ?_⟩, Nat.le_trans hl hm⟩
    obtain ⟨b, off, spot⟩ := a
    have q0 := hq i hi
    have hspot : spot = none := by
      have := hq 0 (by omega)
      simpa [Addr.add] using World.cell?_spot this
    subst hspot
    have ea : ∀ j, (⟨b, off, none⟩ : Addr).add j = ⟨b, off + j, none⟩ := fun j => by simp [Addr.add]
    rw [ea] at q0
    exact ⟨b, off, rfl, World.block_lt_of_cell? W _ q0, q0⟩
set_option maxRecDepth 100000 in
theorem open_msgs {H : Type} {enc : TypeId × Value → H} {W : World} {fuel : Nat} {v : Value} {x : DataW H × List MemPlace} (h : DataW.trod enc Try.prog W 0 (fun _ => true) true fuel 42 [v] = some x) :
    ∃ ms : Mgs, RdM W v ms ∧ ms.length ≤ maxLen ∧ MsFit maxLen ms := by
  rcases DataW.trod_slice Try.underlying42 h with ⟨hcs, _⟩ | ⟨a, len, cap, elems, rest, n, _, hcs, _, _, hl, hm, hlen, hel, _, _⟩
  · simp at hcs
    subst hcs
    exact ⟨[], ⟨none, 0, rfl, fun i hi => absurd hi (by simp)⟩, by simp, fun i hi => absurd hi (by simp)⟩
  · simp at hcs
    subst hcs
    have each : ∀ i, i < len → ∃ p : Mg, MgFits maxLen p ∧ W.cell? (a.add (i * 5)) = some (.int .i64 p.fr) ∧ W.cell? (a.add (i * 5 + 1)) = some (.int .i64 p.to) ∧ W.cell? (a.add (i * 5 + 2)) = some (.string p.sum) ∧ W.cell? (a.add (i * 5 + 3)) = some (.bool p.has) ∧ W.cell? (a.add (i * 5 + 4)) = some (.string p.text) := by
      intro i hi
      have h1 := hel i hi
      rw [cellsAMsg, List.getElem?_eq_getElem (by omega), Option.bind_eq_some_iff] at h1
      obtain ⟨cs, h2, h3⟩ := h1
      obtain ⟨hc1, hc2⟩ : cs.length = 5 ∧ ∀ j, j < 5 → W.cell? ((a.add (i * 5)).add j) = cs[j]? := by
        exact (World.cells?_some h2).2
      obtain ⟨xs, m, _, _, _, hxl, hf⟩ := DataW.trod_struct Try.underlying110 h3
      match cs, hc1 with
      | [c0, c1, c2, c3, c4], _ =>
        match xs, hxl with
        | [y0, y1, y2, y3, y4], _ =>
          have g0 : DataW.trod enc Try.prog W 0 (fun _ => true) true m 3 [c0] = some y0 := by simpa [cells3] using hf 0 _ rfl
          have g1 : DataW.trod enc Try.prog W 0 (fun _ => true) true m 3 [c1] = some y1 := by simpa [cells3] using hf 1 _ rfl
          have g2 : DataW.trod enc Try.prog W 0 (fun _ => true) true m 9 [c2] = some y2 := by simpa [cells9] using hf 2 _ rfl
          have g3 : DataW.trod enc Try.prog W 0 (fun _ => true) true m 4 [c3] = some y3 := by simpa [cells4] using hf 3 _ rfl
          have g4 : DataW.trod enc Try.prog W 0 (fun _ => true) true m 9 [c4] = some y4 := by simpa [cells9] using hf 4 _ rfl
          obtain ⟨u0, e0, _, _⟩ := DataW.trod_int Try.underlying3 g0
          obtain ⟨u1, e1, _, _⟩ := DataW.trod_int Try.underlying3 g1
          obtain ⟨u2, e2, _, hw2⟩ := DataW.trod_string Try.underlying9 g2
          obtain ⟨u3, e3, _⟩ := DataW.trod_bool Try.underlying4 g3
          obtain ⟨u4, e4, _, hw4⟩ := DataW.trod_string Try.underlying9 g4
          simp at e0 e1 e2 e3 e4
          subst e0 e1 e2 e3 e4
          refine ⟨⟨u0, u1, u2, u3, u4⟩, ⟨hw2, hw4⟩, ?_, ?_, ?_, ?_, ?_⟩
          · have := hc2 0 (by omega)
            simpa [Addr.add] using this
          · have := hc2 1 (by omega)
            rw [Addr.add_add] at this
            simpa using this
          · have := hc2 2 (by omega)
            rw [Addr.add_add] at this
            simpa using this
          · have := hc2 3 (by omega)
            rw [Addr.add_add] at this
            simpa using this
          · have := hc2 4 (by omega)
            rw [Addr.add_add] at this
            simpa using this
    obtain ⟨ms, hn, hq⟩ := list_of mg0 _ len each
    subst hn
    refine ⟨ms, ⟨some a, cap, rfl, fun i hi => ?_⟩, Nat.le_trans hl hm, fun i hi => (hq i hi).1⟩
    obtain ⟨b, off, spot⟩ := a
    obtain ⟨_, q0, q1, q2, q3, q4⟩ := hq i hi
    have hspot : spot = none := by
      obtain ⟨_, this, _⟩ := hq 0 (by omega)
      simpa [Addr.add] using World.cell?_spot this
    subst hspot
    have ea : ∀ j, (⟨b, off, none⟩ : Addr).add j = ⟨b, off + j, none⟩ := fun j => by simp [Addr.add]
    rw [ea] at q0 q1 q2 q3 q4
    exact ⟨b, off, rfl, World.block_lt_of_cell? W _ q0, q0, by rw [Nat.add_assoc]; exact q1, by rw [Nat.add_assoc]; exact q2, by rw [Nat.add_assoc]; exact q3, by rw [Nat.add_assoc]; exact q4⟩
set_option maxRecDepth 100000 in
theorem open_stores {H : Type} {enc : TypeId × Value → H} {W : World} {fuel : Nat} {v : Value} {x : DataW H × List MemPlace} (h : DataW.trod enc Try.prog W 0 (fun _ => true) true fuel 41 [v] = some x) :
    ∃ ss : Srs, RdS W v ss ∧ ss.length ≤ maxLen ∧ SsFit maxLen ss := by
  rcases DataW.trod_slice Try.underlying41 h with ⟨hcs, _⟩ | ⟨a, len, cap, elems, rest, n, _, hcs, _, _, hl, hm, hlen, hel, _, _⟩
  · simp at hcs
    subst hcs
    exact ⟨[], ⟨none, 0, rfl, fun i hi => absurd hi (by simp)⟩, by simp, fun i hi => absurd hi (by simp)⟩
  · simp at hcs
    subst hcs
    have each : ∀ i, i < len → ∃ p : Sr, SrFits maxLen p ∧ ∃ vi vp, W.cell? (a.add (i * 4)) = some (.int .i64 p.wd) ∧ W.cell? (a.add (i * 4 + 1)) = some (.int .i64 p.room) ∧ W.cell? (a.add (i * 4 + 2)) = some vi ∧ W.cell? (a.add (i * 4 + 3)) = some vp ∧ RdI W vi p.its ∧ Reads W vp p.ts := by
      intro i hi
      have h1 := hel i hi
      rw [cellsAStore, List.getElem?_eq_getElem (by omega), Option.bind_eq_some_iff] at h1
      obtain ⟨cs, h2, h3⟩ := h1
      obtain ⟨hc1, hc2⟩ : cs.length = 4 ∧ ∀ j, j < 4 → W.cell? ((a.add (i * 4)).add j) = cs[j]? := by
        exact (World.cells?_some h2).2
      obtain ⟨xs, m, _, _, _, hxl, hf⟩ := DataW.trod_struct Try.underlying25 h3
      match cs, hc1 with
      | [c0, c1, c2, c3], _ =>
        match xs, hxl with
        | [y0, y1, y2, y3], _ =>
          have g0 : DataW.trod enc Try.prog W 0 (fun _ => true) true m 3 [c0] = some y0 := by simpa [cells3] using hf 0 _ rfl
          have g1 : DataW.trod enc Try.prog W 0 (fun _ => true) true m 3 [c1] = some y1 := by simpa [cells3] using hf 1 _ rfl
          have g2 : DataW.trod enc Try.prog W 0 (fun _ => true) true m 22 [c2] = some y2 := by simpa [cellsAItems] using hf 2 _ rfl
          have g3 : DataW.trod enc Try.prog W 0 (fun _ => true) true m 23 [c3] = some y3 := by simpa [cellsStrs] using hf 3 _ rfl
          obtain ⟨u0, e0, _, _⟩ := DataW.trod_int Try.underlying3 g0
          obtain ⟨u1, e1, _, _⟩ := DataW.trod_int Try.underlying3 g1
          obtain ⟨its, ri, li, si⟩ := open_items g2
          obtain ⟨ts, rp, lp, sp⟩ := open_texts g3
          simp at e0 e1
          subst e0 e1
          refine ⟨⟨u0, u1, its, ts⟩, ⟨li, si, lp, sp⟩, c2, c3, ?_, ?_, ?_, ?_, ri, rp⟩
          · have := hc2 0 (by omega)
            simpa [Addr.add] using this
          · have := hc2 1 (by omega)
            rw [Addr.add_add] at this
            simpa using this
          · have := hc2 2 (by omega)
            rw [Addr.add_add] at this
            simpa using this
          · have := hc2 3 (by omega)
            rw [Addr.add_add] at this
            simpa using this
    obtain ⟨ss, hn, hq⟩ := list_of sr0 _ len each
    subst hn
    refine ⟨ss, ⟨some a, cap, rfl, fun i hi => ?_⟩, Nat.le_trans hl hm, fun i hi => (hq i hi).1⟩
    obtain ⟨b, off, spot⟩ := a
    obtain ⟨_, vi, vp, q0, q1, q2, q3, q4, q5⟩ := hq i hi
    have hspot : spot = none := by
      obtain ⟨_, _, _, this, _⟩ := hq 0 (by omega)
      simpa [Addr.add] using World.cell?_spot this
    subst hspot
    have ea : ∀ j, (⟨b, off, none⟩ : Addr).add j = ⟨b, off + j, none⟩ := fun j => by simp [Addr.add]
    rw [ea] at q0 q1 q2 q3
    exact ⟨b, off, vi, vp, rfl, World.block_lt_of_cell? W _ q0, q0, by rw [Nat.add_assoc]; exact q1, by rw [Nat.add_assoc]; exact q2, by rw [Nat.add_assoc]; exact q3, q4, q5⟩
set_option maxRecDepth 100000 in
theorem open_world {H : Type} {enc : TypeId × Value → H} {W : World} {base : Nat} {v : Value} {d : DataW H} {p : List MemPlace} (hv : Value.okWide Try.prog W .any base 44 v) (h : DataW.Trod enc Try.prog W 0 (fun _ => true) true 44 v d p) :
    ∃ (x : Wd) (vi vp vq vu vs vm : Value), v = wval x.nm x.now x.full x.wd x.room vi vp vq vu vs vm x.wst ∧ RdW W vi vp vq vu vs vm x ∧ WFits maxLen x := by
  obtain ⟨cs, rfl, hsz⟩ := okWide_struct Try.underlying44 hv
  rw [cellsAWorld] at hsz
  obtain ⟨l⟩ := cs
  obtain ⟨fuel, hf0⟩ := h
  have hf1 : DataW.trod enc Try.prog W 0 (fun _ => true) true fuel 44 l = some (d, p) := hf0
  obtain ⟨xs, m, _, _, _, hxl, hf⟩ := DataW.trod_struct Try.underlying44 hf1
  have hl : l.length = 12 := by simpa using hsz
  match l, hl with
  | [c0, c1, c2, c3, c4, c5, c6, c7, c8, c9, c10, c11], _ =>
    match xs, hxl with
    | [y0, y1, y2, y3, y4], _ =>
      have g0 : DataW.trod enc Try.prog W 0 (fun _ => true) true m 28 [c0, c1, c2, c3, c4, c5, c6, c7] = some y0 := by simpa [cellsAFetch] using hf 0 _ rfl
      have g1 : DataW.trod enc Try.prog W 0 (fun _ => true) true m 40 [c8] = some y1 := by simpa [cellsBools] using hf 1 _ rfl
      have g2 : DataW.trod enc Try.prog W 0 (fun _ => true) true m 41 [c9] = some y2 := by simpa [cellsAStores] using hf 2 _ rfl
      have g3 : DataW.trod enc Try.prog W 0 (fun _ => true) true m 42 [c10] = some y3 := by simpa [cellsAMsgs] using hf 3 _ rfl
      have g4 : DataW.trod enc Try.prog W 0 (fun _ => true) true m 3 [c11] = some y4 := by simpa [cells3] using hf 4 _ rfl
      obtain ⟨bs, ru, lu⟩ := open_bools g1
      obtain ⟨ss, rs, ls, fs⟩ := open_stores g2
      obtain ⟨ms, rm, lm, fm⟩ := open_msgs g3
      obtain ⟨wst, e11, _, _⟩ := DataW.trod_int Try.underlying3 g4
      obtain ⟨ks, m2, _, _, _, hkl, hk⟩ := DataW.trod_struct Try.underlying28 g0
      match ks, hkl with
      | [j0, j1, j2, j3, j4], _ =>
        have f0 : DataW.trod enc Try.prog W 0 (fun _ => true) true m2 9 [c0] = some j0 := by simpa [cells9] using hk 0 _ rfl
        have f1 : DataW.trod enc Try.prog W 0 (fun _ => true) true m2 3 [c1] = some j1 := by simpa [cells3] using hk 1 _ rfl
        have f2 : DataW.trod enc Try.prog W 0 (fun _ => true) true m2 4 [c2] = some j2 := by simpa [cells4] using hk 2 _ rfl
        have f3 : DataW.trod enc Try.prog W 0 (fun _ => true) true m2 25 [c3, c4, c5, c6] = some j3 := by simpa [cellsAStore] using hk 3 _ rfl
        have f4 : DataW.trod enc Try.prog W 0 (fun _ => true) true m2 26 [c7] = some j4 := by simpa [cellsAPeers] using hk 4 _ rfl
        obtain ⟨zs, n, _, _, _, hzl, hg⟩ := DataW.trod_struct Try.underlying25 f3
        match zs, hzl with
        | [z0, z1, z2, z3], _ =>
          have k0 : DataW.trod enc Try.prog W 0 (fun _ => true) true n 3 [c3] = some z0 := by simpa [cells3] using hg 0 _ rfl
          have k1 : DataW.trod enc Try.prog W 0 (fun _ => true) true n 3 [c4] = some z1 := by simpa [cells3] using hg 1 _ rfl
          have k2 : DataW.trod enc Try.prog W 0 (fun _ => true) true n 22 [c5] = some z2 := by simpa [cellsAItems] using hg 2 _ rfl
          have k3 : DataW.trod enc Try.prog W 0 (fun _ => true) true n 23 [c6] = some z3 := by simpa [cellsStrs] using hg 3 _ rfl
          obtain ⟨nm, e0, _, hw⟩ := DataW.trod_string Try.underlying9 f0
          obtain ⟨now, e1, _, _⟩ := DataW.trod_int Try.underlying3 f1
          obtain ⟨full, e2, _⟩ := DataW.trod_bool Try.underlying4 f2
          obtain ⟨wd, e3, _, _⟩ := DataW.trod_int Try.underlying3 k0
          obtain ⟨room, e4, _, _⟩ := DataW.trod_int Try.underlying3 k1
          obtain ⟨its, hi, hi1, hi2⟩ := open_items k2
          obtain ⟨ts, hp, hp1, hp2⟩ := open_texts k3
          obtain ⟨ps, hq, hq1, hq2⟩ := open_peers f4
          simp at e0 e1 e2 e3 e4 e11
          subst e0 e1 e2 e3 e4 e11
          exact ⟨⟨nm, now, full, wd, room, its, ts, ps, bs, ss, ms, wst⟩, c5, c6, c7, c8, c9, c10, rfl, ⟨hi, hp, hq, ru, rs, rm⟩, ⟨hw, hi1, hi2, hp1, hp2, hq1, hq2, lu, ls, fs, lm, fm⟩⟩
end Go.Proofs.Ytiflibkabmkloaa
/- laws.FnExactValidWorld returns true at every argument. -/
namespace Go.Proofs.Ytiflibkabmkloaa.fnExactValidWorld
open Go.ChangeShapes Go.WideShapes Go.ChangeAt Go.RowKit
open Go.ChangeMaps (open_string shut_string)
set_option linter.unusedVariables false

theorem own : ownKnob Try.prog.godebug = none := by kernel_rfl

set_option maxRecDepth 100000 in
set_option maxHeartbeats 8000000 in
theorem walk (x : Wd) (vi vp vq vu vs vm : Value) (w : World) (h : RdW w vi vp vq vu vs vm x) (hf : WFits maxLen x) :
    Calls Try.prog 4 #[wval x.nm x.now x.full x.wd x.room vi vp vq vu vs vm x.wst] w fun e w' => e = .returned (.bool true) ∧ Below w.heap.size w w' := by
  obtain ⟨nm, now, full, wd, room, its, ts, ps, bs, ss, ms, wst⟩ := x
  obtain ⟨ai, ci, rfl, _⟩ := id h.i
  obtain ⟨ap, cp, rfl, _⟩ := h.p.form
  obtain ⟨aq, cq, rfl, _⟩ := id h.q
  obtain ⟨au, cu, rfl, _⟩ := id h.u
  obtain ⟨ax, cx, rfl, _⟩ := id h.s
  obtain ⟨am, cm, rfl, _⟩ := id h.m
  have hA := (Below.refl w.heap.size w).alloc (Nat.le_refl _) (.cells #[.string nm, .int .i64 now, .bool full, .int .i64 wd, .int .i64 room, .slice ai its.length ci, .slice ap ts.length cp, .slice aq ps.length cq, .slice au bs.length cu, .slice ax ss.length cx, .slice am ms.length cm, .int .i64 wst] 44)
  have HZ := hid (szWorld_any ⟨nm, now, full, wd, room, its, ts, ps, bs, ss, ms, wst⟩ _ _ _ _ _ _ _ (h.below hA) hf)
  have HN := hid (Blk.new w 44 #[.string nm, .int .i64 now, .bool full, .int .i64 wd, .int .i64 room, .slice ai its.length ci, .slice ap ts.length cp, .slice aq ps.length cq, .slice au bs.length cu, .slice ax ss.length cx, .slice am ms.length cm, .int .i64 wst])
  have HR := hid h
  have HA := hid hA
  have HE := hid fun (a b c d e f a' b' c' d' e' f' : Value) (W : World) h1 h2 => eqWorld_any ⟨nm, now, full, wd, room, its, ts, ps, bs, ss, ms, wst⟩ a b c d e f a' b' c' d' e' f' W h1 h2 hf
  clear h hA hf
  go_enter Try.func4, Try.ntmps4
  go_wp2_with fail
  refine HZ.out.mono ?_
  rintro e w1 ⟨r, rfl, hr, hb1⟩
  have B1 := HA.out.trans (hb1.mono (by simp))
  have X1 := HN.out.below hb1
  by_cases hneg : r < 0
  · have HB := hid B1
    clear hr hb1 B1 X1
    go_wp2
    go_ret
    exact ⟨by simp, HB.out⟩
  · have ff := hr (by omega)
    have HT := hid fun (a b c d e f : Value) (W : World) k => toWorld_any ⟨nm, now, full, wd, room, its, ts, ps, bs, ss, ms, wst⟩ a b c d e f W k ff
    have HS := hid fun (a b c d e f : Value) (W : World) k => specValidWorld_any ⟨nm, now, full, wd, room, its, ts, ps, bs, ss, ms, wst⟩ a b c d e f W k ff
    have HM := hid fun (a b c d e f : Value) (W : World) k => implValidWorld_any ⟨nm, now, full, wd, room, its, ts, ps, bs, ss, ms, wst⟩ a b c d e f W k ff
    clear hr hb1 HZ ff
    have x0 : w1.cell? ⟨w.heap.size, 0, none⟩ = some (.string nm) := X1.cell 0
    have x1 : w1.cell? ⟨w.heap.size, 1, none⟩ = some (.int .i64 now) := X1.cell 1
    have x2 : w1.cell? ⟨w.heap.size, 2, none⟩ = some (.bool full) := X1.cell 2
    have x3 : w1.cell? ⟨w.heap.size, 3, none⟩ = some (.int .i64 wd) := X1.cell 3
    have x4 : w1.cell? ⟨w.heap.size, 4, none⟩ = some (.int .i64 room) := X1.cell 4
    have x5 : w1.cell? ⟨w.heap.size, 5, none⟩ = some (.slice ai its.length ci) := X1.cell 5
    have x6 : w1.cell? ⟨w.heap.size, 6, none⟩ = some (.slice ap ts.length cp) := X1.cell 6
    have x7 : w1.cell? ⟨w.heap.size, 7, none⟩ = some (.slice aq ps.length cq) := X1.cell 7
    have x8 : w1.cell? ⟨w.heap.size, 8, none⟩ = some (.slice au bs.length cu) := X1.cell 8
    have x9 : w1.cell? ⟨w.heap.size, 9, none⟩ = some (.slice ax ss.length cx) := X1.cell 9
    have x10 : w1.cell? ⟨w.heap.size, 10, none⟩ = some (.slice am ms.length cm) := X1.cell 10
    have x11 : w1.cell? ⟨w.heap.size, 11, none⟩ = some (.int .i64 wst) := X1.cell 11
    have HT1 := hid (HT.out _ _ _ _ _ _ w1 (HR.out.below B1))
    have HB1 := hid B1
    have HX1 := hid X1
    clear X1 B1
    go_wp2_with fail
    refine HT1.out.mono ?_
    rintro e w2 ⟨i2, p2, q2, u2, s2, m2, rfl, rd2, hb2⟩
    have B2 := HB1.out.trans (hb2.mono HB1.out.size)
    have X2 := HX1.out.below hb2
    have HS2 := hid (HS.out i2 p2 q2 u2 s2 m2 w2 rd2)
    have HB2 := hid B2
    have HX2 := hid X2
    clear x0 x1 x2 x3 x4 x5 x6 x7 x8 x9 x10 x11 hb2 B2 X2 rd2
    go_wp2_with fail
    refine HS2.out.mono ?_
    rintro e w3 ⟨b3, rfl, hb3, hbl3⟩
    have B3 := HB2.out.trans (hbl3.mono HB2.out.size)
    have X3 := HX2.out.below hbl3
    have HT3 := hid (HT.out _ _ _ _ _ _ w3 (HR.out.below B3))
    have HB3 := hid B3
    have HX3 := hid X3
    have HV3 := hid hb3
    have x0 : w3.cell? ⟨w.heap.size, 0, none⟩ = some (.string nm) := X3.cell 0
    have x1 : w3.cell? ⟨w.heap.size, 1, none⟩ = some (.int .i64 now) := X3.cell 1
    have x2 : w3.cell? ⟨w.heap.size, 2, none⟩ = some (.bool full) := X3.cell 2
    have x3 : w3.cell? ⟨w.heap.size, 3, none⟩ = some (.int .i64 wd) := X3.cell 3
    have x4 : w3.cell? ⟨w.heap.size, 4, none⟩ = some (.int .i64 room) := X3.cell 4
    have x5 : w3.cell? ⟨w.heap.size, 5, none⟩ = some (.slice ai its.length ci) := X3.cell 5
    have x6 : w3.cell? ⟨w.heap.size, 6, none⟩ = some (.slice ap ts.length cp) := X3.cell 6
    have x7 : w3.cell? ⟨w.heap.size, 7, none⟩ = some (.slice aq ps.length cq) := X3.cell 7
    have x8 : w3.cell? ⟨w.heap.size, 8, none⟩ = some (.slice au bs.length cu) := X3.cell 8
    have x9 : w3.cell? ⟨w.heap.size, 9, none⟩ = some (.slice ax ss.length cx) := X3.cell 9
    have x10 : w3.cell? ⟨w.heap.size, 10, none⟩ = some (.slice am ms.length cm) := X3.cell 10
    have x11 : w3.cell? ⟨w.heap.size, 11, none⟩ = some (.int .i64 wst) := X3.cell 11
    clear hbl3 B3 X3 hb3
    go_wp2_with fail
    refine HT3.out.mono ?_
    rintro e w4 ⟨i4, p4, q4, u4, s4, m4, rfl, rd4, hb4⟩
    have B4 := HB3.out.trans (hb4.mono HB3.out.size)
    have X4 := HX3.out.below hb4
    obtain ⟨ai4, ci4, hi4, _⟩ := id rd4.i
    obtain ⟨ap4, cp4, hp4, _⟩ := rd4.p.form
    obtain ⟨aq4, cq4, hq4, _⟩ := id rd4.q
    obtain ⟨au4, cu4, hu4, _⟩ := id rd4.u
    obtain ⟨ax4, cx4, hs4, _⟩ := id rd4.s
    obtain ⟨am4, cm4, hm4, _⟩ := id rd4.m
    subst hi4 hp4 hq4 hu4 hs4 hm4
    dsimp only at rd4
    have hA4 := (Below.refl w4.heap.size w4).alloc (Nat.le_refl _) (.cells #[.string nm, .int .i64 now, .bool full, .int .i64 wd, .int .i64 room, .slice ai4 its.length ci4, .slice ap4 ts.length cp4, .slice aq4 ps.length cq4, .slice au4 bs.length cu4, .slice ax4 ss.length cx4, .slice am4 ms.length cm4, .int .i64 wst] 50)
    have HM4 := hid (HM.out _ _ _ _ _ _ _ (rd4.below hA4))
    have HA4 := hid hA4
    have HB4 := hid B4
    have HX4 := hid X4
    have HR4 := hid rd4
    clear x0 x1 x2 x3 x4 x5 x6 x7 x8 x9 x10 x11 hb4 B4 X4 rd4 hA4
    go_wp2_with fail
    refine HM4.out.mono ?_
    rintro e w5 ⟨b5, rfl, hb5, hbl5⟩
    have E5 := HA4.out.trans (hbl5.mono (by simp))
    have Y5 := (Blk.new w4 50 #[.string nm, .int .i64 now, .bool full, .int .i64 wd, .int .i64 room, .slice ai4 its.length ci4, .slice ap4 ts.length cp4, .slice aq4 ps.length cq4, .slice au4 bs.length cu4, .slice ax4 ss.length cx4, .slice am4 ms.length cm4, .int .i64 wst]).below hbl5
    have B5 := HB4.out.trans (E5.mono HB4.out.size)
    have X5 := HX4.out.below E5
    have heq : b3 = b5 := by
      have h1 := HV3.out
      cases b3 <;> cases b5 <;> simp_all
    subst heq
    have hbd : Below w5.heap.size w5 w5.drew := below_drewN (Below.refl _ _) 1
    have hS0 : w5.drew.cell? ⟨w4.heap.size, 0, none⟩ = some (.string nm) ∧ w5.drew.cell? ⟨w4.heap.size, 1, none⟩ = some (.int .i64 now) ∧ w5.drew.cell? ⟨w4.heap.size, 2, none⟩ = some (.bool full) ∧ w5.drew.cell? ⟨w4.heap.size, 3, none⟩ = some (.int .i64 wd) ∧ w5.drew.cell? ⟨w4.heap.size, 4, none⟩ = some (.int .i64 room) ∧ w5.drew.cell? ⟨w4.heap.size, 5, none⟩ = some (.slice ai4 its.length ci4) ∧ w5.drew.cell? ⟨w4.heap.size, 6, none⟩ = some (.slice ap4 ts.length cp4) ∧ w5.drew.cell? ⟨w4.heap.size, 7, none⟩ = some (.slice aq4 ps.length cq4) ∧ w5.drew.cell? ⟨w4.heap.size, 8, none⟩ = some (.slice au4 bs.length cu4) ∧ w5.drew.cell? ⟨w4.heap.size, 9, none⟩ = some (.slice ax4 ss.length cx4) ∧ w5.drew.cell? ⟨w4.heap.size, 10, none⟩ = some (.slice am4 ms.length cm4) ∧ w5.drew.cell? ⟨w4.heap.size, 11, none⟩ = some (.int .i64 wst) ∧ w5.drew.cell? ⟨w.heap.size, 0, none⟩ = some (.string nm) ∧ w5.drew.cell? ⟨w.heap.size, 1, none⟩ = some (.int .i64 now) ∧ w5.drew.cell? ⟨w.heap.size, 2, none⟩ = some (.bool full) ∧ w5.drew.cell? ⟨w.heap.size, 3, none⟩ = some (.int .i64 wd) ∧ w5.drew.cell? ⟨w.heap.size, 4, none⟩ = some (.int .i64 room) ∧ w5.drew.cell? ⟨w.heap.size, 5, none⟩ = some (.slice ai its.length ci) ∧ w5.drew.cell? ⟨w.heap.size, 6, none⟩ = some (.slice ap ts.length cp) ∧ w5.drew.cell? ⟨w.heap.size, 7, none⟩ = some (.slice aq ps.length cq) ∧ w5.drew.cell? ⟨w.heap.size, 8, none⟩ = some (.slice au bs.length cu) ∧ w5.drew.cell? ⟨w.heap.size, 9, none⟩ = some (.slice ax ss.length cx) ∧ w5.drew.cell? ⟨w.heap.size, 10, none⟩ = some (.slice am ms.length cm) ∧ w5.drew.cell? ⟨w.heap.size, 11, none⟩ = some (.int .i64 wst) := ⟨Y5.cell 0, Y5.cell 1, Y5.cell 2, Y5.cell 3, Y5.cell 4, Y5.cell 5, Y5.cell 6, Y5.cell 7, Y5.cell 8, Y5.cell 9, Y5.cell 10, Y5.cell 11, X5.cell 0, X5.cell 1, X5.cell 2, X5.cell 3, X5.cell 4, X5.cell 5, X5.cell 6, X5.cell 7, X5.cell 8, X5.cell 9, X5.cell 10, X5.cell 11⟩
    have HT5 := hid (HT.out _ _ _ _ _ _ w5.drew (HR.out.below (B5.trans (hbd.mono B5.size))))
    have HB5 := hid B5
    have HY5 := hid Y5
    have HX5 := hid X5
    have HR5 := hid (HR4.out.below E5)
    clear hb5 hbl5 E5 Y5 B5 X5 hbd
    have hec := enters_of Try.func12 (by kernel_rfl) rfl
    have hec2 := enters_of Try.func14 (by kernel_rfl) rfl
    go_wp2_with fail
    refine wp_region_held (S := fun w' => w'.cell? ⟨w4.heap.size, 0, none⟩ = some (.string nm) ∧ w'.cell? ⟨w4.heap.size, 1, none⟩ = some (.int .i64 now) ∧ w'.cell? ⟨w4.heap.size, 2, none⟩ = some (.bool full) ∧ w'.cell? ⟨w4.heap.size, 3, none⟩ = some (.int .i64 wd) ∧ w'.cell? ⟨w4.heap.size, 4, none⟩ = some (.int .i64 room) ∧ w'.cell? ⟨w4.heap.size, 5, none⟩ = some (.slice ai4 its.length ci4) ∧ w'.cell? ⟨w4.heap.size, 6, none⟩ = some (.slice ap4 ts.length cp4) ∧ w'.cell? ⟨w4.heap.size, 7, none⟩ = some (.slice aq4 ps.length cq4) ∧ w'.cell? ⟨w4.heap.size, 8, none⟩ = some (.slice au4 bs.length cu4) ∧ w'.cell? ⟨w4.heap.size, 9, none⟩ = some (.slice ax4 ss.length cx4) ∧ w'.cell? ⟨w4.heap.size, 10, none⟩ = some (.slice am4 ms.length cm4) ∧ w'.cell? ⟨w4.heap.size, 11, none⟩ = some (.int .i64 wst) ∧ w'.cell? ⟨w.heap.size, 0, none⟩ = some (.string nm) ∧ w'.cell? ⟨w.heap.size, 1, none⟩ = some (.int .i64 now) ∧ w'.cell? ⟨w.heap.size, 2, none⟩ = some (.bool full) ∧ w'.cell? ⟨w.heap.size, 3, none⟩ = some (.int .i64 wd) ∧ w'.cell? ⟨w.heap.size, 4, none⟩ = some (.int .i64 room) ∧ w'.cell? ⟨w.heap.size, 5, none⟩ = some (.slice ai its.length ci) ∧ w'.cell? ⟨w.heap.size, 6, none⟩ = some (.slice ap ts.length cp) ∧ w'.cell? ⟨w.heap.size, 7, none⟩ = some (.slice aq ps.length cq) ∧ w'.cell? ⟨w.heap.size, 8, none⟩ = some (.slice au bs.length cu) ∧ w'.cell? ⟨w.heap.size, 9, none⟩ = some (.slice ax ss.length cx) ∧ w'.cell? ⟨w.heap.size, 10, none⟩ = some (.slice am ms.length cm) ∧ w'.cell? ⟨w.heap.size, 11, none⟩ = some (.int .i64 wst)) (by kernel_rfl) ?_
    change wpAnyH _ _ _ _ _ _ _ _ (World.drew _)
    refine wpAnyH_take (i := 0) (v := .agg #[.string nm, .int .i64 now, .bool full, .int .i64 wd, .int .i64 room, .slice ai4 its.length ci4, .slice ap4 ts.length cp4, .slice aq4 ps.length cq4, .slice au4 bs.length cu4, .slice ax4 ss.length cx4, .slice am4 ms.length cm4, .int .i64 wst]) rfl (by kernel_rfl) (by kernel_rfl) (by kernel_rfl) (fun _ _ _ h => h) (.inl ⟨rfl, fun w' hS => by obtain ⟨s1, s2, s3, s4, s5, s6, s7, s8, s9, s10, s11, s12, s13, s14, s15, s16, s17, s18, s19, s20, s21, s22, s23, s24⟩ := hS; go_simp⟩) hS0 ?_
    refine wpAnyH_take (i := 1) (v := .agg #[.string nm, .int .i64 now, .bool full, .int .i64 wd, .int .i64 room, .slice ai its.length ci, .slice ap ts.length cp, .slice aq ps.length cq, .slice au bs.length cu, .slice ax ss.length cx, .slice am ms.length cm, .int .i64 wst]) rfl (by kernel_rfl) (by kernel_rfl) (by kernel_rfl) (fun _ _ _ h => h) (.inl ⟨rfl, fun w' hS => by obtain ⟨s1, s2, s3, s4, s5, s6, s7, s8, s9, s10, s11, s12, s13, s14, s15, s16, s17, s18, s19, s20, s21, s22, s23, s24⟩ := hS; go_simp⟩) hS0 ?_
    refine held_one 2 (by kernel_rfl) (op_calls (f := 12) (args := #[.agg #[.string nm, .int .i64 now, .bool full, .int .i64 wd, .int .i64 room, .slice ai its.length ci, .slice ap ts.length cp, .slice aq ps.length cq, .slice au bs.length cu, .slice ax ss.length cx, .slice am ms.length cm, .int .i64 wst]]) rfl rfl (by go_simp) HT5.out ?_)
    rintro e w7 ⟨i7, p7, q7, u7, s7, m7, rfl, rd7, hb7⟩
    have hb7' : Below w5.heap.size w5 w7 := ⟨hb7.os, hb7.tape, hb7.output, hb7.size, hb7.block⟩
    have V7 := HY5.out.below hb7'
    have X7 := HX5.out.below hb7'
    have hS1 : w7.cell? ⟨w4.heap.size, 0, none⟩ = some (.string nm) ∧ w7.cell? ⟨w4.heap.size, 1, none⟩ = some (.int .i64 now) ∧ w7.cell? ⟨w4.heap.size, 2, none⟩ = some (.bool full) ∧ w7.cell? ⟨w4.heap.size, 3, none⟩ = some (.int .i64 wd) ∧ w7.cell? ⟨w4.heap.size, 4, none⟩ = some (.int .i64 room) ∧ w7.cell? ⟨w4.heap.size, 5, none⟩ = some (.slice ai4 its.length ci4) ∧ w7.cell? ⟨w4.heap.size, 6, none⟩ = some (.slice ap4 ts.length cp4) ∧ w7.cell? ⟨w4.heap.size, 7, none⟩ = some (.slice aq4 ps.length cq4) ∧ w7.cell? ⟨w4.heap.size, 8, none⟩ = some (.slice au4 bs.length cu4) ∧ w7.cell? ⟨w4.heap.size, 9, none⟩ = some (.slice ax4 ss.length cx4) ∧ w7.cell? ⟨w4.heap.size, 10, none⟩ = some (.slice am4 ms.length cm4) ∧ w7.cell? ⟨w4.heap.size, 11, none⟩ = some (.int .i64 wst) ∧ w7.cell? ⟨w.heap.size, 0, none⟩ = some (.string nm) ∧ w7.cell? ⟨w.heap.size, 1, none⟩ = some (.int .i64 now) ∧ w7.cell? ⟨w.heap.size, 2, none⟩ = some (.bool full) ∧ w7.cell? ⟨w.heap.size, 3, none⟩ = some (.int .i64 wd) ∧ w7.cell? ⟨w.heap.size, 4, none⟩ = some (.int .i64 room) ∧ w7.cell? ⟨w.heap.size, 5, none⟩ = some (.slice ai its.length ci) ∧ w7.cell? ⟨w.heap.size, 6, none⟩ = some (.slice ap ts.length cp) ∧ w7.cell? ⟨w.heap.size, 7, none⟩ = some (.slice aq ps.length cq) ∧ w7.cell? ⟨w.heap.size, 8, none⟩ = some (.slice au bs.length cu) ∧ w7.cell? ⟨w.heap.size, 9, none⟩ = some (.slice ax ss.length cx) ∧ w7.cell? ⟨w.heap.size, 10, none⟩ = some (.slice am ms.length cm) ∧ w7.cell? ⟨w.heap.size, 11, none⟩ = some (.int .i64 wst) := ⟨V7.cell 0, V7.cell 1, V7.cell 2, V7.cell 3, V7.cell 4, V7.cell 5, V7.cell 6, V7.cell 7, V7.cell 8, V7.cell 9, V7.cell 10, V7.cell 11, X7.cell 0, X7.cell 1, X7.cell 2, X7.cell 3, X7.cell 4, X7.cell 5, X7.cell 6, X7.cell 7, X7.cell 8, X7.cell 9, X7.cell 10, X7.cell 11⟩
    have HEQ := hid (HE.out _ _ _ _ _ _ i7 p7 q7 u7 s7 m7 w7 (HR5.out.below hb7') rd7)
    have HB7 := hid (HB5.out.trans (hb7'.mono HB5.out.size))
    refine ⟨_, rfl, hS1, ?_⟩
    refine held_one 3 (by kernel_rfl) (op_calls (f := 14) (args := #[.agg #[.string nm, .int .i64 now, .bool full, .int .i64 wd, .int .i64 room, .slice ai4 its.length ci4, .slice ap4 ts.length cp4, .slice aq4 ps.length cq4, .slice au4 bs.length cu4, .slice ax4 ss.length cx4, .slice am4 ms.length cm4, .int .i64 wst], wval nm now full wd room i7 p7 q7 u7 s7 m7 wst]) rfl rfl (by go_simp) HEQ.out ?_)
    rintro e w8 ⟨rfl, hb8⟩
    have V8 := V7.below hb8
    have X8 := X7.below hb8
    have hS2 : w8.cell? ⟨w4.heap.size, 0, none⟩ = some (.string nm) ∧ w8.cell? ⟨w4.heap.size, 1, none⟩ = some (.int .i64 now) ∧ w8.cell? ⟨w4.heap.size, 2, none⟩ = some (.bool full) ∧ w8.cell? ⟨w4.heap.size, 3, none⟩ = some (.int .i64 wd) ∧ w8.cell? ⟨w4.heap.size, 4, none⟩ = some (.int .i64 room) ∧ w8.cell? ⟨w4.heap.size, 5, none⟩ = some (.slice ai4 its.length ci4) ∧ w8.cell? ⟨w4.heap.size, 6, none⟩ = some (.slice ap4 ts.length cp4) ∧ w8.cell? ⟨w4.heap.size, 7, none⟩ = some (.slice aq4 ps.length cq4) ∧ w8.cell? ⟨w4.heap.size, 8, none⟩ = some (.slice au4 bs.length cu4) ∧ w8.cell? ⟨w4.heap.size, 9, none⟩ = some (.slice ax4 ss.length cx4) ∧ w8.cell? ⟨w4.heap.size, 10, none⟩ = some (.slice am4 ms.length cm4) ∧ w8.cell? ⟨w4.heap.size, 11, none⟩ = some (.int .i64 wst) ∧ w8.cell? ⟨w.heap.size, 0, none⟩ = some (.string nm) ∧ w8.cell? ⟨w.heap.size, 1, none⟩ = some (.int .i64 now) ∧ w8.cell? ⟨w.heap.size, 2, none⟩ = some (.bool full) ∧ w8.cell? ⟨w.heap.size, 3, none⟩ = some (.int .i64 wd) ∧ w8.cell? ⟨w.heap.size, 4, none⟩ = some (.int .i64 room) ∧ w8.cell? ⟨w.heap.size, 5, none⟩ = some (.slice ai its.length ci) ∧ w8.cell? ⟨w.heap.size, 6, none⟩ = some (.slice ap ts.length cp) ∧ w8.cell? ⟨w.heap.size, 7, none⟩ = some (.slice aq ps.length cq) ∧ w8.cell? ⟨w.heap.size, 8, none⟩ = some (.slice au bs.length cu) ∧ w8.cell? ⟨w.heap.size, 9, none⟩ = some (.slice ax ss.length cx) ∧ w8.cell? ⟨w.heap.size, 10, none⟩ = some (.slice am ms.length cm) ∧ w8.cell? ⟨w.heap.size, 11, none⟩ = some (.int .i64 wst) := ⟨V8.cell 0, V8.cell 1, V8.cell 2, V8.cell 3, V8.cell 4, V8.cell 5, V8.cell 6, V8.cell 7, V8.cell 8, V8.cell 9, V8.cell 10, V8.cell 11, X8.cell 0, X8.cell 1, X8.cell 2, X8.cell 3, X8.cell 4, X8.cell 5, X8.cell 6, X8.cell 7, X8.cell 8, X8.cell 9, X8.cell 10, X8.cell 11⟩
    have HB8 := hid (HB7.out.trans (hb8.mono HB7.out.size))
    refine ⟨_, rfl, hS2, ?_⟩
    refine wpAnyH_take (i := 4) (v := .bool false) rfl (by kernel_rfl) (by kernel_rfl) (by kernel_rfl) (fun _ _ _ h => h) (.inl ⟨rfl, fun w' hS => by obtain ⟨s1, s2, s3, s4, s5, s6, s7, s8, s9, s10, s11, s12, s13, s14, s15, s16, s17, s18, s19, s20, s21, s22, s23, s24⟩ := hS; go_simp⟩) hS2 ?_
    refine wpAnyH_done (by kernel_rfl) ?_ _
    clear hS0 hS1 hS2 V7 X7 V8 X8 hb7 hb7' hb8 rd7
    go_simp
    go_wp2
    go_ret
    exact ⟨by simp, HB8.out⟩
theorem laid : laidOutB Try.prog = true := by kernel_rfl

set_option maxRecDepth 100000 in
theorem lifted (os : Os) (started : os.Started) (H : Type) (enc : TypeId × Value → H) :
    ReturnsInHanded {} Try.checked os 4 .any (Rows.fnExactValidWorldSpec.pre6 enc Try.prog Try.f4 Rows.fnExactValidWorldRow.domain false) (Rows.fnExactValidWorldSpec.post enc Try.prog Try.f4 false true false false) := by
  refine returnsInHanded_of_change (C := Try.checked) own started (by kernel_rfl) Try.func4
    (ChangeSpec.witness6 (enc := enc) (C := Try.checked) false ⟨#[], #[.agg #[.string ByteArray.empty, .int .i64 0, .bool false, .int .i64 0, .int .i64 0, .slice none 0 0, .slice none 0 0, .slice none 0 0, .slice none 0 0, .slice none 0 0, .slice none 0 0, .int .i64 0]], []⟩ 8 (by kernel_rfl) (by kernel_rfl) (by kernel_rfl) (by kernel_rfl)) ?_
  intro W base args ds gs before hval0 hW hcnd _
  have hval : ∀ (j : Nat) t v, Try.f4.params[j]? = some t → args[j]? = some v → Value.okWide Try.prog W .any base t v := hval0
  have hW' := hW
  obtain ⟨p, q, hA0, hV, rfl, hfz, hnd⟩ := hW
  have hA : DataW.TrodAll enc Try.prog W 0 (fun _ => true) true Try.f4.params.toList args.toList ds p := hA0
  rw [Try.params4] at hA hval
  obtain ⟨v0, vs0, d0, ds0, p0, q0, hargs, rfl, rfl, h0, r0⟩ := trodAll_cons hA
  obtain ⟨rfl, rfl, rfl⟩ := trodAll_nil r0
  obtain rfl : args = #[v0] := by cases args; simp_all
  obtain ⟨rfl, rfl⟩ := trodVars_none hV
  have k0 := h0
  have lt0 : ∀ x ∈ p0, x.block < W.heap.size := by obtain ⟨m, hm⟩ := k0; exact DataW.trod_lt m _ _ _ hm
  obtain ⟨x, vi, vp, vq, vu, vs, vm, rfl, rd, hfp⟩ := open_world (hval 0 44 v0 rfl rfl) h0
  clear hA0 hval0
  refine (walk x vi vp vq vu vs vm W rd hfp).mono fun e W' ⟨he, bel⟩ => ?_
  subst he
  exact ⟨_, rfl, _, _, _, [], _, [], hW', trodAll_mk1 (shut_bool Try.underlying4 _), (trodAll_cons_mk (Below.trod laid (by kernel_rfl) (of_decide_eq_true (by kernel_rfl)) k0 bel lt0) trodAll_mk0), rfl, bel.frame _, fun h => by cases h⟩

theorem over : Rows.fnExactValidWorldRow.holds Try.pinned (OpenSpec.ofChange Rows.fnExactValidWorldSpec) :=
  OpenClaim.holds_of_wide 4 Try.f4 rfl rfl rfl rfl rfl rfl rfl ⟨rfl, rfl, rfl, rfl, rfl⟩ rfl rfl rfl rfl rfl (by kernel_rfl) Try.func4 (by kernel_rfl)
    (of_decide_eq_true (by kernel_rfl)) (by unfold Func.isWrapper; first | (rw [if_pos (by decide +kernel)]; kernel_rfl) | (rw [if_neg (by decide +kernel)]; exact ⟨rfl, rfl⟩))
    (fun os started H enc _ => lifted os started H enc)
end Go.Proofs.Ytiflibkabmkloaa.fnExactValidWorld
namespace Go.Proofs.Ytiflibkabmkloaa
theorem fnExactValidWorld_holds : Rows.FnExactValidWorldSaid := fnExactValidWorld.over
#print axioms fnExactValidWorld_holds
end Go.Proofs.Ytiflibkabmkloaa
