/- What FetchTake makes of a fetch. -/
import Derived.Test.YtbihndholamdfaaGreatDoorPutImpl
import Derived.Test.YtbihndholamdfaaGreatDoorFetchValid
import Derived.Test.YtbihndholamdfaaGreatDoorReadTurned
import Derived.Test.YtbihndholamdfaaGreatDoorPinSpec
import Derived.Test.YtbihndholamdfaaGreatDoorFetchTo
namespace Go.Proofs.YtbihndholamdfaaGreatDoor
open Go.RowKit
/-- Whether a text is read as a list. -/
def FormOk (s : ByteArray) (m : Int) : Prop := ∃ n ss, okL n ss m = true ∧ formR n ss m = s
theorem ReadR.form {s : ByteArray} {m n : Int} {ss : List ByteArray} {ok : Bool} (h : ReadR s m n ss ok) : ok = true ↔ FormOk s m := by
 rcases h with ⟨rfl, h1, h2⟩ | ⟨rfl, _, _, h2⟩
 ·exact ⟨fun _ => ⟨n, ss, h1, h2⟩, fun _ => rfl⟩
 ·exact ⟨fun h => by (cases h), fun ⟨n', ss', h3, h4⟩ => absurd h4 (h2 n' ss' h3)⟩
/-- One sum more that a peer has not, if there is room. -/
def notsA (sum : ByteArray) (ns : List ByteArray) : List ByteArray := if (addT sum ns).length ≤ 376 then addT sum ns else ns
/-- What a peer is that has not what it was asked for. -/
def noteP (p : Pr) (sum : ByteArray) : Pr := ⟨p.lies, 0, p.last, ⟨#[]⟩, notsA sum p.nots⟩
/-- What a peer is that told the truth. -/
def freeP (p : Pr) : Pr := ⟨p.lies, 0, p.last, ⟨#[]⟩, p.nots⟩
/-- What a peer is that lied. -/
def lieP (p : Pr) : Pr := ⟨if p.lies + 1 > 3 then 3 else p.lies + 1, 0, p.last, ⟨#[]⟩, p.nots⟩
/-- Whether it is the answer to what was asked. -/
structure Asks (ps : Prs) (fr tg : Int) (sum : ByteArray) : Prop where
 tgt : tg = 0
 lo : 1 ≤ fr
 hi : fr ≤ (ps.length : Int)
 wait : (pat ps (fr - 1).toNat).wait ≠ 0
 asked : (pat ps (fr - 1).toNat).asked = sum
/-- Whether a text is not what was asked for. -/
def BadA (nm : ByteArray) (wd : Int) (sum text : ByteArray) : Prop := sumX wd text ≠ sum ∨ (sum = nm ∧ ¬ FormOk text wd)
/-- What comes of a text that a peer says that it has. -/
def KeepR (nm : ByteArray) (wd room : Int) (its : Itms) (ts : List ByteArray) (now : Int) (sum text : ByteArray) (code : Int) (b : Itms) : Prop :=
 (BadA nm wd sum text ∧ code = 1 ∧ b = its) ∨
 (¬ BadA nm wd sum text ∧ ¬ Puts text now ∧ code = 1 ∧ b = its) ∨
 (¬ BadA nm wd sum text ∧ Puts text now ∧ ∃ a, PutI wd room (NeedTo wd its ts ts.length) its text now code a ∧ ((code ≠ 0 ∧ b = its) ∨ (code = 0 ∧ b = a)))
theorem KeepR.uniq {nm : ByteArray} {wd room : Int} {its : Itms} {ts : List ByteArray} {now : Int} {sum text : ByteArray} {c d : Int} {a b : Itms} (hA : AscI wd its) (h : KeepR nm wd room its ts now sum text c a) (k : KeepR nm wd room its ts now sum text d b) : c = d ∧ a = b := by
 rcases h with ⟨h1, rfl, rfl⟩ | ⟨h1, h2, rfl, rfl⟩ | ⟨h1, h2, x, h3, h4⟩ <;> rcases k with ⟨k1, rfl, rfl⟩ | ⟨k1, k2, rfl, rfl⟩ | ⟨k1, k2, y, k3, k4⟩
 ·exact ⟨rfl, rfl⟩
 ·exact absurd h1 k1
 ·exact absurd h1 k1
 ·exact absurd k1 h1
 ·exact ⟨rfl, rfl⟩
 ·exact absurd k2 h2
 ·exact absurd k1 h1
 ·exact absurd h2 k2
 ·obtain ⟨rfl, rfl⟩ := h3.uniq hA.lt k3
  refine ⟨rfl, ?_⟩
  rcases h4 with ⟨e, rfl⟩ | ⟨e, rfl⟩ <;> rcases k4 with ⟨f, rfl⟩ | ⟨f, rfl⟩
  ·rfl
  ·exact absurd f e
  ·exact absurd e f
  ·rfl
theorem KeepR.codes {nm : ByteArray} {wd room : Int} {its : Itms} {ts : List ByteArray} {now : Int} {sum text : ByteArray} {c : Int} {a : Itms} (h : KeepR nm wd room its ts now sum text c a) : c = 0 ∨ c = 1 ∨ c = 2 ∨ c = 3 := by
 rcases h with ⟨_, h, _⟩ | ⟨_, _, h, _⟩ | ⟨_, _, x, h, _⟩
 ·exact .inr (.inl h)
 ·exact .inr (.inl h)
 ·cases h with
  | there => exact .inl rfl
  | other => exact .inr (.inr (.inl rfl))
  | put => exact .inl rfl
  | full => exact .inr (.inr (.inr rfl))
/-- The peer behind an answer with this code. -/
def codeP (p : Pr) (code : Int) : Pr := if code = 1 ∨ code = 2 then lieP p else freeP p
/-- What comes of a valid fetch. -/
def TakeS (nm : ByteArray) (now : Int) (full : Bool) (wd room : Int) (its : Itms) (ts : List ByteArray) (ps : Prs) (fr tg : Int) (sum : ByteArray) (has : Bool) (text : ByteArray) (full' : Bool) (its' : Itms) (ps' : Prs) : Prop :=
 (¬ Asks ps fr tg sum ∧ full' = full ∧ its' = its ∧ ps' = ps) ∨
 (Asks ps fr tg sum ∧ has = false ∧ full' = full ∧ its' = its ∧ ps' = ps.set (fr - 1).toNat (noteP (pat ps (fr - 1).toNat) sum)) ∨
 (Asks ps fr tg sum ∧ has = true ∧ ∃ code, KeepR nm wd room its ts now sum text code its' ∧ full' = (full || decide (code = 3)) ∧ ps' = ps.set (fr - 1).toNat (codeP (pat ps (fr - 1).toNat) code))
theorem TakeS.uniq {nm : ByteArray} {now : Int} {full : Bool} {wd room : Int} {its : Itms} {ts : List ByteArray} {ps : Prs} {fr tg : Int} {sum : ByteArray} {has : Bool} {text : ByteArray} {f1 f2 : Bool} {i1 i2 : Itms} {p1 p2 : Prs} (hA : AscI wd its) (h : TakeS nm now full wd room its ts ps fr tg sum has text f1 i1 p1) (k : TakeS nm now full wd room its ts ps fr tg sum has text f2 i2 p2) : f1 = f2 ∧ i1 = i2 ∧ p1 = p2 := by
 rcases h with ⟨h1, rfl, rfl, rfl⟩ | ⟨h1, h2, rfl, rfl, rfl⟩ | ⟨h1, h2, c, h3, rfl, rfl⟩ <;> rcases k with ⟨k1, rfl, rfl, rfl⟩ | ⟨k1, k2, rfl, rfl, rfl⟩ | ⟨k1, k2, d, k3, rfl, rfl⟩
 ·exact ⟨rfl, rfl, rfl⟩
 ·exact absurd k1 h1
 ·exact absurd k1 h1
 ·exact absurd h1 k1
 ·exact ⟨rfl, rfl, rfl⟩
 ·rw [h2] at k2; cases k2
 ·exact absurd h1 k1
 ·rw [h2] at k2; cases k2
 ·obtain ⟨rfl, rfl⟩ := h3.uniq hA k3
  exact ⟨rfl, rfl, rfl⟩
/-- What FetchTake answers. -/
def TakeR (nm : ByteArray) (now : Int) (full : Bool) (wd room : Int) (its : Itms) (ts : List ByteArray) (ps : Prs) (fr tg : Int) (sum : ByteArray) (has : Bool) (text : ByteArray) (nm' : ByteArray) (now' : Int) (full' : Bool) (wd' room' : Int) (its' : Itms) (ts' : List ByteArray) (ps' : Prs) : Prop :=
 (¬ ValidF nm now wd room its ts ps ∧ nm' = ⟨#[]⟩ ∧ now' = 0 ∧ full' = false ∧ wd' = 0 ∧ room' = 0 ∧ its' = [] ∧ ts' = [] ∧ ps' = []) ∨
 (ValidF nm now wd room its ts ps ∧ nm' = nm ∧ now' = now ∧ wd' = wd ∧ room' = room ∧ ts' = ts ∧ TakeS nm now full wd room its ts ps fr tg sum has text full' its' ps')
theorem take_same {nm : ByteArray} {now : Int} {full : Bool} {wd room : Int} {its : Itms} {ts : List ByteArray} {ps : Prs} {fr tg : Int} {sum : ByteArray} {has : Bool} {text : ByteArray} {n1 n2 : ByteArray} {w1 w2 : Int} {f1 f2 : Bool} {x1 x2 r1 r2 : Int} {i1 i2 : Itms} {t1 t2 : List ByteArray} {p1 p2 : Prs} (h : TakeR nm now full wd room its ts ps fr tg sum has text n1 w1 f1 x1 r1 i1 t1 p1) (k : TakeR nm now full wd room its ts ps fr tg sum has text n2 w2 f2 x2 r2 i2 t2 p2) : n1 = n2 ∧ w1 = w2 ∧ f1 = f2 ∧ x1 = x2 ∧ r1 = r2 ∧ i1 = i2 ∧ t1 = t2 ∧ p1 = p2 := by
 rcases h with ⟨h1, rfl, rfl, rfl, rfl, rfl, rfl, rfl, rfl⟩ | ⟨h1, rfl, rfl, rfl, rfl, rfl, h2⟩ <;> rcases k with ⟨k1, rfl, rfl, rfl, rfl, rfl, rfl, rfl, rfl⟩ | ⟨k1, rfl, rfl, rfl, rfl, rfl, k2⟩
 ·exact ⟨rfl, rfl, rfl, rfl, rfl, rfl, rfl, rfl⟩
 ·exact absurd k1 h1
 ·exact absurd h1 k1
 ·obtain ⟨rfl, rfl, rfl⟩ := h2.uniq (ascI_of h1.store.each) k2
  exact ⟨rfl, rfl, rfl, rfl, rfl, rfl, rfl, rfl⟩
theorem addT_le (s : ByteArray) (ts : List ByteArray) : (addT s ts).length ≤ ts.length + 1 := by
 unfold addT
 split
 ·omega
 ·have := cutN_le s ts
  simp
  omega
theorem pat_set (ps : Prs) (i j : Nat) (p : Pr) (h : i < ps.length) : pat (ps.set i p) j = if j = i then p else pat ps j := by
 unfold pat
 rw [List.getD_eq_getElem?_getD, List.getElem?_set]
 by_cases e : i = j
 ·subst e; rw [if_pos rfl, if_pos h, if_pos rfl]; rfl
 ·rw [if_neg e, if_neg (fun h => e h.symm), ← List.getD_eq_getElem?_getD]
end Go.Proofs.YtbihndholamdfaaGreatDoor
