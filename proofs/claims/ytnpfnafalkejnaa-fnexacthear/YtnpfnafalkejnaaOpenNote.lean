/- A note that came in; what Hear answers is one and the same. -/
import Derived.Test.YtnpfnafalkejnaaNotesHeld
import Derived.Test.YtnpfnafalkejnaaHearImpl
import Derived.Lib.SmallJoins
import Derived.Below
import Derived.DataElems
import Derived.WalkKit
import Derived.ProofKit
import Derived.OpenShut
import Derived.ShutString
import Derived.ChangeOld
import Derived.SliceStrings
namespace Go.Proofs.Ytnpfnafalkejnaa
open Go.ChangeShapes Go.WideShapes Go.ChangeAt Go.RowKit
theorem reads_sums {w : World} {x : Addr} {len cap : Nat} {ss : List ByteArray} (hl : len ≤ ss.length) (hcell : ∀ i, i < ss.length → w.cell? (x.add i) = some (.string (ss.getD i ByteArray.empty))) (hw : ∀ s ∈ ss, s.size ≤ maxLen) :
    Reads w (.slice (some x) len cap) (ss.take len) ∧ ∀ i, (tv (ss.take len) i).size ≤ maxLen := by
  have hlen : (ss.take len).length = len := by simp; omega
  constructor
  · by_cases e : len = 0
    · subst e
      exact .inl ⟨by simp, some x, cap, rfl⟩
    · obtain ⟨b, off, spot⟩ := x
      have hspot : spot = none := by simpa [Addr.add] using World.cell?_spot (hcell 0 (by omega))
      subst hspot
      have ea : ∀ i, (⟨b, off, none⟩ : Addr).add i = ⟨b, off + i, none⟩ := fun i => by simp [Addr.add]
      have h0 := hcell 0 (by omega)
      rw [ea] at h0
      refine .inr ⟨b, off, cap, by rw [hlen], World.block_lt_of_cell? w _ h0, fun i hi => ?_⟩
      rw [hlen] at hi
      have hc := hcell i (by omega)
      rw [ea] at hc
      rw [hc]
      simp [hi]
  · intro i
    unfold tv
    by_cases hi : i < (ss.take len).length
    · rw [List.getD_eq_getElem?_getD, List.getElem?_eq_getElem hi]
      exact hw _ (List.mem_of_mem_take (List.getElem_mem hi))
    · rw [List.getD_eq_getElem?_getD, List.getElem?_eq_none (by omega)]; simp
theorem cellsSums : Try.prog.cellsOf 22 = 1 := by kernel_rfl
theorem cellsInt : Try.prog.cellsOf 3 = 1 := by kernel_rfl
theorem cellsBool : Try.prog.cellsOf 4 = 1 := by kernel_rfl
theorem cellsText : Try.prog.cellsOf 9 = 1 := by kernel_rfl
theorem cellsANote : Try.prog.cellsOf 32 = 6 := by kernel_rfl
theorem open_sums {H : Type} {enc : TypeId × Value → H} {W : World} {fuel : Nat} {v : Value} {x : DataW H × List MemPlace} (h : DataW.trod enc Try.prog W 0 (fun _ => true) true fuel 22 [v] = some x) :
    ∃ ts, Reads W v ts ∧ ts.length ≤ maxLen ∧ ∀ i, (tv ts i).size ≤ maxLen := by
  rcases open_strings Try.underlying22 Try.underlying9 (by kernel_rfl) h with ⟨hcs, _⟩ | ⟨x, l, c, ss, hcs, _, hl, hm, hz, hx, hcell, hwz⟩
  · simp at hcs
    subst hcs
    exact ⟨[], .inl ⟨rfl, none, 0, rfl⟩, by simp, fun i => by simp [tv]⟩
  · simp at hcs
    subst hcs
    simp only [if_true] at hz
    have hsz : l ≤ ss.length := by rw [hz]; exact hl
    have h2 := reads_sums (cap := c) hsz hcell hwz
    exact ⟨ss.take l, h2.1, by rw [List.length_take]; exact Nat.le_trans (Nat.min_le_left _ _) (Nat.le_trans hl hm), h2.2⟩
set_option maxRecDepth 100000 in
theorem open_note {H : Type} {enc : TypeId × Value → H} {W : World} {base : Nat} {v : Value} {d : DataW H} {p : List MemPlace} (hv : Value.okWide Try.prog W .any base 32 v) (h : DataW.Trod enc Try.prog W 0 (fun _ => true) true 32 v d p) :
    ∃ (f t m : ByteArray) (c : Int) (h : Bool) (vs : Value) (ss : List ByteArray), v = .agg #[.string f, .string t, .int .i64 c, .string m, .bool h, vs] ∧ Reads W vs ss ∧ f.size ≤ maxLen ∧ t.size ≤ maxLen ∧ m.size ≤ maxLen ∧ ss.length ≤ maxLen ∧ ∀ i, (tv ss i).size ≤ maxLen := by
  obtain ⟨cs, rfl, hsz⟩ := okWide_struct Try.underlying32 hv
  rw [cellsANote] at hsz
  obtain ⟨l⟩ := cs
  obtain ⟨fuel, hf0⟩ := h
  have hf1 : DataW.trod enc Try.prog W 0 (fun _ => true) true fuel 32 l = some (d, p) := hf0
  obtain ⟨xs, m, _, _, _, hxl, hf⟩ := DataW.trod_struct Try.underlying32 hf1
  have hl : l.length = 6 := by simpa using hsz
  match l, hl with
  | [c0, c1, c2, c3, c4, c5], _ =>
    match xs, hxl with
    | [y0, y1, y2, y3, y4, y5], _ =>
      have g0 : DataW.trod enc Try.prog W 0 (fun _ => true) true m 9 [c0] = some y0 := by simpa [cellsText] using hf 0 _ rfl
      have g1 : DataW.trod enc Try.prog W 0 (fun _ => true) true m 9 [c1] = some y1 := by simpa [cellsText] using hf 1 _ rfl
      have g2 : DataW.trod enc Try.prog W 0 (fun _ => true) true m 3 [c2] = some y2 := by simpa [cellsText, cellsInt] using hf 2 _ rfl
      have g3 : DataW.trod enc Try.prog W 0 (fun _ => true) true m 9 [c3] = some y3 := by simpa [cellsText, cellsInt] using hf 3 _ rfl
      have g4 : DataW.trod enc Try.prog W 0 (fun _ => true) true m 4 [c4] = some y4 := by simpa [cellsBool] using hf 4 _ rfl
      have g5 : DataW.trod enc Try.prog W 0 (fun _ => true) true m 22 [c5] = some y5 := by simpa [cellsSums] using hf 5 _ rfl
      obtain ⟨f, e0, _, hw0⟩ := DataW.trod_string Try.underlying9 g0
      obtain ⟨t, e1, _, hw1⟩ := DataW.trod_string Try.underlying9 g1
      obtain ⟨c, e2, _, _⟩ := DataW.trod_int Try.underlying3 g2
      obtain ⟨mm, e3, _, hw3⟩ := DataW.trod_string Try.underlying9 g3
      obtain ⟨b, e4, _⟩ := DataW.trod_bool Try.underlying4 g4
      obtain ⟨ss, hp, hp1, hp2⟩ := open_sums g5
      simp at e0 e1 e2 e3 e4
      subst e0 e1 e2 e3 e4
      exact ⟨f, t, mm, c, b, c5, ss, rfl, hp, hw0, hw1, hw3, hp1, hp2⟩
theorem ReplyR.uniq {n : Int} {ts : List ByteArray} {x : Nt} {a b : List Nt} (h : ReplyR n ts x a) (k : ReplyR n ts x b) : a = b := by
  rcases h with ⟨h1, rfl⟩ | ⟨h1, h2, rfl⟩ | ⟨h1, h2, rfl⟩ <;> rcases k with ⟨k1, rfl⟩ | ⟨k1, k2, rfl⟩ | ⟨k1, k2, rfl⟩ <;> first | rfl | contradiction
theorem HearR.uniq {n : Int} {ts : List ByteArray} {x : Nt} {a b : List Nt} {t1 t2 o1 o2 : List ByteArray} (h : HearR n ts x a t1 o1) (k : HearR n ts x b t2 o2) : a = b ∧ t1 = t2 ∧ o1 = o2 := by
  rcases h with ⟨h1, rfl, rfl, rfl⟩ | ⟨h1, h2, rfl, rfl, rfl⟩ | ⟨h1, h2, h3, rfl, rfl⟩ <;> rcases k with ⟨k1, rfl, rfl, rfl⟩ | ⟨k1, k2, rfl, rfl, rfl⟩ | ⟨k1, k2, k3, rfl, rfl⟩
  · exact ⟨rfl, rfl, rfl⟩
  · exact absurd k1 h1
  · exact absurd k1 h1
  · exact absurd h1 k1
  · exact ⟨rfl, rfl, rfl⟩
  · rw [h2] at k2; cases k2
  · exact absurd h1 k1
  · rw [h2] at k2; cases k2
  · exact ⟨h3.uniq k3, rfl, rfl⟩
/-- How many notes and sums there are at most in a reply. -/
theorem ReplyR.few {n : Int} {ts : List ByteArray} {x : Nt} {a : List Nt} (h : ReplyR n ts x a) (hl : ts.length ≤ 1048576) : a.length ≤ 2 ∧ totN a ≤ 1048591 ∧ ∀ i, i < a.length → (natt a i).ss.length ≤ 1048576 := by
  have hf := fromTo_len x.f x.t ts
  rcases h with ⟨_, rfl⟩ | ⟨_, _, rfl⟩ | ⟨_, _, rfl⟩
  · exact ⟨by simp, by simp [totN], fun i hi => absurd hi (by simp)⟩
  · refine ⟨by simp, by simp [totN]; omega, fun i hi => ?_⟩
    have : i = 0 := by simpa using hi
    subst this
    exact Nat.le_trans hf hl
  · refine ⟨by simp, by simp [totN, tellN], fun i hi => ?_⟩
    have : i = 0 ∨ i = 1 := by simp at hi; omega
    rcases this with rfl | rfl <;> simp [natt, tellN]
end Go.Proofs.Ytnpfnafalkejnaa
