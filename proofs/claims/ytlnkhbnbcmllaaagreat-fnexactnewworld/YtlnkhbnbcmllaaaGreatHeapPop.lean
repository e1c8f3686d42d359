import Derived.Test.YtlnkhbnbcmllaaaGreatPutMath
import Derived.Test.YtlnkhbnbcmllaaaGreatGetImpl
import Derived.Test.YtlnkhbnbcmllaaaGreatShelfStore
import Derived.Test.YtlnkhbnbcmllaaaGreatMark2
import Derived.Maps.Range
import Derived.Test.YtlnkhbnbcmllaaaGreatShort
import Derived.BigRegion
/- The row of what may leave; frames with some blocks left out. -/
namespace Go.Proofs.YtlnkhbnbcmllaaaGreat
open Go.RowKit
/-- All blocks but some are as they were. -/
structure But (P : Nat → Prop) (w w' : World) : Prop where
  os : w'.os = w.os
  tape : w'.tape = w.tape
  output : w'.output = w.output
  size : w.heap.size ≤ w'.heap.size
  block : ∀ b, b < w.heap.size → ¬ P b → w'.heap[b]? = w.heap[b]?
theorem But.refl (P : Nat → Prop) (w : World) : But P w w := ⟨rfl, rfl, rfl, Nat.le_refl _, fun _ _ _ => rfl⟩
theorem But.of_grown {P : Nat → Prop} {w w' : World} {b : Nat} (h : w.grownBy w' (some b)) (hP : P b) : But P w w' := ⟨h.os, h.tape, h.output, h.size, fun k hk hn => h.block k hk (fun e => hn (by cases e; exact hP))⟩
theorem But.of_below {P : Nat → Prop} {w w' : World} (h : Below w.heap.size w w') : But P w w' := ⟨h.os, h.tape, h.output, h.size, fun k hk _ => h.block k hk⟩
theorem But.trans {P Q : Nat → Prop} {a b c : World} (h : But P a b) (k : But Q b c) (hQ : ∀ i, i < a.heap.size → Q i → P i) : But P a c :=
  ⟨k.os.trans h.os, k.tape.trans h.tape, k.output.trans h.output, Nat.le_trans h.size k.size, fun i hi hn => (k.block i (Nat.lt_of_lt_of_le hi h.size) (fun q => hn (hQ i hi q))).trans (h.block i hi hn)⟩
theorem But.below {P : Nat → Prop} {w w' : World} {B : Nat} (h : But P w w') (hB : B ≤ w.heap.size) (hP : ∀ b, P b → B ≤ b) : Below B w w' :=
  ⟨h.os, h.tape, h.output, h.size, fun k hk => h.block k (by omega) (fun p => by have := hP k p; omega)⟩
theorem But.blk {P : Nat → Prop} {w w' : World} (h : But P w w') {b : Nat} {T : TypeId} {cs : Array Value} (hb : Blk w b T cs) (hn : ¬ P b) : Blk w' b T cs := (h.block b hb.lt hn).trans hb
theorem But.row {P : Nat → Prop} {w w' : World} (h : But P w w') {B size n : Nat} {e : TypeId} {v : Value} {xs : List Value} (hr : w.ownsRow B e size v n xs) (hn : ∀ g, v.ownBlock = some g → ¬ P g) : w'.ownsRow B e size v n xs := by
  obtain ⟨h1, h2 | ⟨g, cap, cur, e1, e2, e3, e4, e5, e6, e7⟩⟩ := hr
  · exact ⟨h1, .inl h2⟩
  · subst e1
    exact ⟨h1, .inr ⟨g, cap, cur, rfl, e2, (h.block g (Array.getElem?_eq_some_iff.1 e3).1 (hn g rfl)).trans e3, e4, e5, e6, e7⟩⟩
theorem But.map {P : Nat → Prop} {w w' : World} (h : But P w w') {Pr : Program} {k : TypeId} {R : Value → Option (DataW Unit × List MemPlace)} {b n : Nat} {D : DataW Unit} (hm : w.ownsMap Pr k R b n D) (hn : ¬ P b) : w'.ownsMap Pr k R b n D := by
  have hlt := hm.lt
  obtain ⟨es, clock, e1, e2⟩ := hm
  exact ⟨es, clock, (h.block b hlt hn).trans e1, e2⟩
theorem But.mono {P Q : Nat → Prop} {w w' : World} (h : But P w w') (hPQ : ∀ b, b < w.heap.size → P b → Q b) : But Q w w' := ⟨h.os, h.tape, h.output, h.size, fun b hb hn => h.block b hb (fun p => hn (hPQ b hb p))⟩
/-! The row -/
end Go.Proofs.YtlnkhbnbcmllaaaGreat
/- impl.leavesFirst and (*impl.heap).push. -/
namespace Go.Proofs.YtlnkhbnbcmllaaaGreat
open Go.RowKit
end Go.Proofs.YtlnkhbnbcmllaaaGreat
/- (*impl.heap).push. -/
namespace Go.Proofs.YtlnkhbnbcmllaaaGreat
open Go.RowKit
end Go.Proofs.YtlnkhbnbcmllaaaGreat
/- (*impl.heap).sink. -/
namespace Go.Proofs.YtlnkhbnbcmllaaaGreat
open Go.RowKit
/-- The least of a place and the first of what stands below it. -/
structure LeastOf (hs : List Lv) (k b m : Nat) : Prop where
  wh : m = k ∨ (0 < m ∧ m < hs.length ∧ (m - 1) / 2 = k ∧ m < b ∧ lfB (hv hs m) (hv hs k) = true)
  all : ∀ c, 2 * k + 1 ≤ c → c < b → c < hs.length → lfB (hv hs c) (hv hs m) = false
theorem LeastOf.no {hs : List Lv} {k b m : Nat} (h : LeastOf hs k b m) (hf : lfB (hv hs b) (hv hs m) = false) : LeastOf hs k (b + 1) m := by
  refine ⟨h.wh.imp id fun ⟨h1, h2, h3, h4, h5⟩ => ⟨h1, h2, h3, by omega, h5⟩, fun c h1 h2 h3 => ?_⟩
  by_cases e : c = b
  · subst e; exact hf
  · exact h.all c h1 (by omega) h3
theorem LeastOf.yes {hs : List Lv} {k b m : Nat} (h : LeastOf hs k b m) (hb0 : 2 * k + 1 ≤ b) (hb1 : b ≤ 2 * k + 2) (hbl : b < hs.length) (hf : lfB (hv hs b) (hv hs m) = true) : LeastOf hs k (b + 1) b := by
  refine ⟨.inr ⟨by omega, hbl, by omega, by omega, ?_⟩, fun c h1 h2 h3 => ?_⟩
  · rcases h.wh with rfl | ⟨_, _, _, _, h5⟩
    · exact hf
    · cases e : lfB (hv hs b) (hv hs k) with
      | true => rfl
      | false =>
        have := lfB_co _ _ _ e (lfB_as _ _ h5)
        rw [hf] at this; cases this
  · by_cases e : c = b
    · subst e; exact lfB_irr _
    · exact lfB_co _ _ _ (h.all c h1 (by omega) h3) (lfB_as _ _ hf)
end Go.Proofs.YtlnkhbnbcmllaaaGreat
/- (*impl.heap).pop. -/
namespace Go.Proofs.YtlnkhbnbcmllaaaGreat
open Go.RowKit
end Go.Proofs.YtlnkhbnbcmllaaaGreat
