import Derived.Test.YtlnkhbnbcmllaaaGreatMakeRoom
import Derived.Test.YtlnkhbnbcmllaaaGreatUnpinMath
/- An item put in among items, and into their map. -/
namespace Go.Proofs.YtlnkhbnbcmllaaaGreat
open Go.RowKit
abbrev AscI (wd : Int) (its : Itms) : Prop := Asc (its.map fun p => sumX wd p.1)
theorem AscI.lt {wd : Int} {its : Itms} (h : AscI wd its) : (sumsL wd its).Pairwise (· < ·) := by
  have := List.Pairwise.map (f := fun b : ByteArray => b.data.toList) (S := (· < ·)) (fun a b hab => tlt_lt hab) h
  simpa [sumsL, Function.comp_def] using this
theorem ascI_of {wd : Int} {its : Itms} (h : ∀ i, i < its.length → itemOk wd its i) : AscI wd its := by
  refine asc_of _ fun i h0 hi => ?_
  have hl : i < its.length := by simpa using hi
  have h1 := (h i hl).2.2 h0
  have e : ∀ j, j < its.length → tv (its.map fun p => sumX wd p.1) j = sumX wd (itx its j) := fun j hj => by simp [tv, itx, hj]
  rw [e i hl, e (i - 1) (by omega)]
  exact h1
theorem AscI.sub {wd : Int} {a b : Itms} (h : AscI wd b) (hs : a.Sublist b) : AscI wd a := List.Pairwise.sublist (hs.map _) h
theorem ins_mem (wd : Int) (its : Itms) (t : ByteArray) (now : Int) (p : ByteArray × Int) : p ∈ insI wd its t now ↔ p = (t, now) ∨ p ∈ its := by
  unfold insI
  constructor
  · intro h
    rcases List.mem_append.1 h with h | h
    · exact .inr (List.mem_of_mem_take h)
    · rcases List.mem_cons.1 h with h | h
      · exact .inl h
      · exact .inr (List.mem_of_mem_drop h)
  · rintro (rfl | h)
    · simp
    · rw [← List.take_append_drop (cutI wd (sumX wd t) its) its] at h
      rcases List.mem_append.1 h with h | h
      · exact List.mem_append.2 (.inl h)
      · exact List.mem_append.2 (.inr (List.mem_cons_of_mem _ h))
theorem ins_len (wd : Int) (its : Itms) (t : ByteArray) (now : Int) : (insI wd its t now).length = its.length + 1 := by
  unfold insI
  have h := congrArg List.length (List.take_append_drop (cutI wd (sumX wd t) its) its)
  rw [List.length_append] at h
  rw [List.length_append, List.length_cons]
  omega
end Go.Proofs.YtlnkhbnbcmllaaaGreat
/- (*impl.shelf).put. -/
namespace Go.Proofs.YtlnkhbnbcmllaaaGreat
open Go.RowKit
end Go.Proofs.YtlnkhbnbcmllaaaGreat
/- impl.Put. -/
namespace Go.Proofs.YtlnkhbnbcmllaaaGreat
open Go.RowKit
theorem PutI.mem {wd room : Int} {Q : ByteArray → Prop} {its : Itms} {t : ByteArray} {now c : Int} {a : Itms} (h : PutI wd room Q its t now c a) : ∀ p, p ∈ a → p = (t, now) ∨ p ∈ its := by
  cases h with
  | there i hi hs ht => exact fun p hp => (List.mem_or_eq_of_mem_set hp).symm
  | other => exact fun p hp => .inr hp
  | put k b hn hw => exact fun p hp => ((ins_mem wd b t now p).1 hp).imp id (fun h => hw.sub.subset h)
  | full => exact fun p hp => .inr hp
theorem PutI.len {wd room : Int} {Q : ByteArray → Prop} {its : Itms} {t : ByteArray} {now c : Int} {a : Itms} (h : PutI wd room Q its t now c a) : a.length ≤ its.length + 1 := by
  cases h with
  | there i hi hs ht => rw [List.length_set]; omega
  | other => omega
  | put k b hn hw => rw [ins_len]; have := hw.len; omega
  | full => omega
theorem PutI.size {wd room : Int} {Q : ByteArray → Prop} {its : Itms} {t : ByteArray} {now c : Int} {a : Itms} (h : PutI wd room Q its t now c a) {n : Nat} (ht : t.size ≤ n) (hs : ∀ i, (itx its i).size ≤ n) (i : Nat) : (itx a i).size ≤ n := by
  by_cases hi : i < a.length
  · rw [itx_get a i hi]
    rcases h.mem _ (List.getElem_mem hi) with e | e
    · rw [e]; exact ht
    · obtain ⟨j, hj, he⟩ := List.getElem_of_mem e
      have := hs j
      rw [itx_get its j hj, he] at this
      exact this
  · unfold itx
    rw [List.getD_eq_getElem?_getD, List.getElem?_eq_none (by omega)]
    show (0 : Nat) ≤ n
    omega
end Go.Proofs.YtlnkhbnbcmllaaaGreat
