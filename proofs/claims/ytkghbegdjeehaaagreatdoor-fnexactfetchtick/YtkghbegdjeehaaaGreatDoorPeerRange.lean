import Derived.Test.YtkghbegdjeehaaaGreatDoorLoadUnder
import Derived.Test.YtkghbegdjeehaaaGreatDoorSetIs
import Derived.Test.YtkghbegdjeehaaaGreatDoorFetchValid
import Derived.Test.YtkghbegdjeehaaaGreatDoorMapPeers
import Derived.Test.YtkghbegdjeehaaaGreatDoorHeapRow
import Derived.Test.YtkghbegdjeehaaaGreatDoorShort
import Derived.Maps.RangeWalk
import Derived.Sort.MapsRangeIn
/- What a list lacks: the sums whose pieces are not there, each once, in their order. -/
namespace Go.Proofs.YtkghbegdjeehaaaGreatDoor
open Go.RowKit
def lkB (wd : Int) (its : Itms) (s : ByteArray) : Bool := (List.range its.length).all fun i => decide (sumX wd (itx its i) ≠ s)
theorem lkB_iff (wd : Int) (its : Itms) (s : ByteArray) : lkB wd its s = true ↔ Absent wd its s := by
 unfold lkB Absent
 simp [List.all_eq_true]
def addL (wd : Int) (its : Itms) (out : List ByteArray) (s : ByteArray) : List ByteArray := if lkB wd its s = true ∧ inB out s = false then out ++ [s] else out
def lackN (wd : Int) (its : Itms) (ss : List ByteArray) (k : Nat) : List ByteArray := (ss.take k).foldl (addL wd its) []
theorem lackN_succ {wd : Int} {its : Itms} {ss : List ByteArray} {k : Nat} (h : k < ss.length) : lackN wd its ss (k + 1) = addL wd its (lackN wd its ss k) (tv ss k) := by
 unfold lackN
 rw [List.take_succ_eq_append_getElem h, List.foldl_append]
 have e : tv ss k = ss[k] := by simp [tv, h]
 rw [e]
 rfl
theorem addL_len (wd : Int) (its : Itms) (out : List ByteArray) (s : ByteArray) : (addL wd its out s).length ≤ out.length + 1 := by
 unfold addL
 split <;> simp
theorem foldL_len (wd : Int) (its : Itms) : ∀ (l out : List ByteArray), (l.foldl (addL wd its) out).length ≤ out.length + l.length
 | [], _ => Nat.le_refl _
 | s :: l, out => by
  have h1 := foldL_len wd its l (addL wd its out s)
  have h2 := addL_len wd its out s
  simp only [List.foldl_cons, List.length_cons]
  omega
theorem lackN_len (wd : Int) (its : Itms) (ss : List ByteArray) (k : Nat) : (lackN wd its ss k).length ≤ k := by
 have h := foldL_len wd its (ss.take k) []
 have h2 := List.length_take_le k ss
 unfold lackN
 simp only [List.length_nil] at h
 omega
theorem foldL_mem (wd : Int) (its : Itms) : ∀ (l out : List ByteArray) (x : ByteArray), x ∈ l.foldl (addL wd its) out → x ∈ out ∨ x ∈ l
 | [], _, _, h => .inl h
 | s :: l, out, x, h => by
  rcases foldL_mem wd its l (addL wd its out s) x h with h1 | h1
  ·unfold addL at h1
   split at h1
   ·rcases List.mem_append.1 h1 with h2 | h2
    ·exact .inl h2
    ·exact .inr (by rw [List.mem_singleton.1 h2]; exact List.mem_cons_self)
   ·exact .inl h1
  ·exact .inr (List.mem_cons_of_mem _ h1)
theorem lackN_mem {wd : Int} {its : Itms} {ss : List ByteArray} {k : Nat} {x : ByteArray} (h : x ∈ lackN wd its ss k) : x ∈ ss := by
 rcases foldL_mem wd its _ _ _ h with h | h
 ·cases h
 ·exact List.mem_of_mem_take h
theorem addL_have {wd : Int} {its : Itms} {out : List ByteArray} {s t : ByteArray} (h : Found wd its s t) : addL wd its out s = out := by
 unfold addL
 rw [if_neg]
 rintro ⟨h1, _⟩
 exact h.not ((lkB_iff wd its s).1 h1)
theorem addL_told {wd : Int} {its : Itms} {out : List ByteArray} {s : ByteArray} (h : inB out s = true) : addL wd its out s = out := by
 unfold addL
 rw [if_neg]
 rintro ⟨_, h1⟩
 rw [h] at h1
 cases h1
theorem addL_new {wd : Int} {its : Itms} {out : List ByteArray} {s : ByteArray} (h : Absent wd its s) (hn : inB out s = false) : addL wd its out s = out ++ [s] := by
 unfold addL
 rw [if_pos ⟨(lkB_iff wd its s).2 h, hn⟩]
/-- What a thing lacks. -/
def LackU (wd : Int) (its : Itms) (name : ByteArray) (out : List ByteArray) : Prop := (∃ n ss, UL wd its name n ss false ∧ out = [name]) ∨ (∃ n ss, UL wd its name n ss true ∧ out = lackN wd its ss ss.length)
theorem LackU.uniq {wd : Int} {its : Itms} {name : ByteArray} {o o' : List ByteArray} (hN : (sumsL wd its).Pairwise (· < ·)) (h : LackU wd its name o) (k : LackU wd its name o') : o = o' := by
 rcases h with ⟨n, ss, h, rfl⟩ | ⟨n, ss, h, rfl⟩ <;> rcases k with ⟨n', ss', k, rfl⟩ | ⟨n', ss', k, rfl⟩
 ·rfl
 ·obtain ⟨_, _, e⟩ := h.uniq hN k; cases e
 ·obtain ⟨_, _, e⟩ := h.uniq hN k; cases e
 ·obtain ⟨_, rfl, _⟩ := h.uniq hN k; rfl
theorem LackU.few {wd : Int} {its : Itms} {name : ByteArray} {o : List ByteArray} (h : LackU wd its name o) : o.length ≤ 375 ∧ ∀ x ∈ o, x = name ∨ ((x.size : Int) = wd ∧ isW wd = true) := by
 rcases h with ⟨n, ss, h, rfl⟩ | ⟨n, ss, h, rfl⟩
 ·exact ⟨by simp, fun x hx => .inl (List.mem_singleton.1 hx)⟩
 ·obtain ⟨h1, _, h3⟩ := h.few
  have := lackN_len wd its ss ss.length
  exact ⟨by omega, fun x hx => .inr (h3 x (lackN_mem hx))⟩
/-- What Lacks answers. -/
def LacksV (wd room : Int) (its : Itms) (ts : List ByteArray) (name : ByteArray) (out : List ByteArray) : Prop := (¬ (ValidSt wd room its ts ∧ (name.size : Int) = wd) ∧ out = []) ∨ ((ValidSt wd room its ts ∧ (name.size : Int) = wd) ∧ LackU wd its name out)
theorem LacksV.uniq {wd room : Int} {its : Itms} {ts : List ByteArray} {name : ByteArray} {o o' : List ByteArray} (h : LacksV wd room its ts name o) (k : LacksV wd room its ts name o') : o = o' := by
 rcases h with ⟨hn, rfl⟩ | ⟨hv, h⟩ <;> rcases k with ⟨kn, rfl⟩ | ⟨kv, k⟩
 ·rfl
 ·exact absurd kv hn
 ·exact absurd hv kn
 ·exact h.uniq (sums_asc hv.1.each) k
theorem LacksV.len {wd room : Int} {its : Itms} {ts : List ByteArray} {name : ByteArray} {o : List ByteArray} (h : LacksV wd room its ts name o) : o.length ≤ 375 := by
 rcases h with ⟨_, rfl⟩ | ⟨_, h⟩
 ·simp
 ·exact h.few.1
end Go.Proofs.YtkghbegdjeehaaaGreatDoor
/- What FetchTick makes of a fetch. -/
namespace Go.Proofs.YtkghbegdjeehaaaGreatDoor
open Go.RowKit
/-- A peer behind a tick that it waited for. -/
def waitP (p : Pr) : Pr := if p.wait = 0 then p else if p.wait = 1 then ⟨p.lies, 0, p.last, ⟨#[]⟩, p.nots⟩ else ⟨p.lies, p.wait - 1, p.last, p.asked, p.nots⟩
/-- A peer that is asked. -/
def askP (p : Pr) (now : Int) (s : ByteArray) : Pr := ⟨p.lies, 5, now, s, p.nots⟩
/-- Who may be asked. -/
def May (p : Pr) : Prop := p.wait = 0 ∧ p.lies < 3
/-- Who is asked ahead of whom. -/
def Sooner (ps : Prs) (i j : Nat) : Prop := (pat ps i).last < (pat ps j).last ∨ ((pat ps i).last = (pat ps j).last ∧ i < j)
theorem Sooner.asym {ps : Prs} {i j : Nat} (h : Sooner ps i j) (k : Sooner ps j i) : False := by
 unfold Sooner at h k
 omega
/-- Those that may be asked, in their order. -/
structure Turns (ps : Prs) (ord : List Nat) : Prop where
 asc : ord.Pairwise (Sooner ps)
 mem : ∀ i, i ∈ ord ↔ i < ps.length ∧ May (pat ps i)
theorem sorted_uniq {R : Nat → Nat → Prop} (hR : ∀ a b, R a b → R b a → False) : ∀ {a b : List Nat}, a.Pairwise R → b.Pairwise R → (∀ i, i ∈ a ↔ i ∈ b) → a = b
 | [], [], _, _, _ => rfl
 | [], y :: b, _, _, h => by have := (h y).2 List.mem_cons_self; cases this
 | x :: a, [], _, _, h => by have := (h x).1 List.mem_cons_self; cases this
 | x :: a, y :: b, ha, hb, h => by
  rw [List.pairwise_cons] at ha hb
  have e : x = y := by
   rcases List.mem_cons.1 ((h x).1 List.mem_cons_self) with e | e
   ·exact e
   ·rcases List.mem_cons.1 ((h y).2 List.mem_cons_self) with e' | e'
    ·exact e'.symm
    ·exact (hR _ _ (hb.1 x e) (ha.1 y e')).elim
  subst e
  rw [sorted_uniq hR ha.2 hb.2]
  intro i
  constructor
  ·intro hi
   rcases List.mem_cons.1 ((h i).1 (List.mem_cons_of_mem _ hi)) with e | e
   ·subst e; exact (hR _ _ (ha.1 i hi) (ha.1 i hi)).elim
   ·exact e
  ·intro hi
   rcases List.mem_cons.1 ((h i).2 (List.mem_cons_of_mem _ hi)) with e | e
   ·subst e; exact (hR _ _ (hb.1 i hi) (hb.1 i hi)).elim
   ·exact e
theorem Turns.uniq {ps : Prs} {a b : List Nat} (h : Turns ps a) (k : Turns ps b) : a = b := sorted_uniq (fun _ _ h k => Sooner.asym h k) h.asc k.asc fun i => (h.mem i).trans (k.mem i).symm
theorem Turns.nodup {ps : Prs} {a : List Nat} (h : Turns ps a) : a.Nodup := h.asc.imp fun h e => by subst e; exact h.asym h
/-- Whether a sum is asked for. -/
def askd (ps : Prs) (s : ByteArray) : Bool := ps.any fun p => decide (p.wait ≠ 0) && decide (p.asked = s)
theorem askd_iff (ps : Prs) (s : ByteArray) : askd ps s = true ↔ ∃ i, i < ps.length ∧ (pat ps i).wait ≠ 0 ∧ (pat ps i).asked = s := by
 unfold askd
 rw [List.any_eq_true]
 constructor
 ·rintro ⟨p, hp, h⟩
  obtain ⟨i, hi, rfl⟩ := List.getElem_of_mem hp
  have e : pat ps i = ps[i] := by simp [pat, hi]
  exact ⟨i, hi, by rw [e]; simpa using h⟩
 ·rintro ⟨i, hi, h⟩
  have e : pat ps i = ps[i] := by simp [pat, hi]
  rw [e] at h
  exact ⟨ps[i], List.getElem_mem hi, by simpa using h⟩
/-- What a peer is asked for. -/
def choice (ps : Prs) (lacks : List ByteArray) (k : Nat) : Option ByteArray := lacks.find? fun s => !askd ps s && !inB (pat ps k).nots s
/-- One peer is asked. -/
def askS (now : Int) (lacks : List ByteArray) (st : Prs × List (Nat × ByteArray)) (k : Nat) : Prs × List (Nat × ByteArray) :=
 match choice st.1 lacks k with
 | none => st
 | some s => (st.1.set k (askP (pat st.1 k) now s), st.2 ++ [(k, s)])
theorem pat_put (ps : Prs) (i j : Nat) (p : Pr) (h : i < ps.length) : pat (ps.set i p) j = if j = i then p else pat ps j := by
 unfold pat
 rw [List.getD_eq_getElem?_getD, List.getElem?_set]
 by_cases e : i = j
 ·subst e; rw [if_pos rfl, if_pos h, if_pos rfl]; rfl
 ·rw [if_neg e, if_neg (fun h => e h.symm), ← List.getD_eq_getElem?_getD]
theorem askS_len (now : Int) (lacks : List ByteArray) (st : Prs × List (Nat × ByteArray)) (k : Nat) : (askS now lacks st k).1.length = st.1.length := by
 unfold askS
 split <;> simp
theorem askS_other (now : Int) (lacks : List ByteArray) (st : Prs × List (Nat × ByteArray)) (k i : Nat) (h : i ≠ k) : pat (askS now lacks st k).1 i = pat st.1 i := by
 unfold askS
 split
 ·rfl
 ·show pat (st.1.set k _) i = _
  by_cases hk : k < st.1.length
  ·rw [pat_put _ _ _ _ hk, if_neg h]
  ·rw [List.set_eq_of_length_le (by omega)]
/-- So many have been asked. -/
def askN (now : Int) (lacks : List ByteArray) (ps : Prs) (pre : List Nat) : Prs × List (Nat × ByteArray) := pre.foldl (askS now lacks) (ps, [])
theorem askN_snoc (now : Int) (lacks : List ByteArray) (ps : Prs) (pre : List Nat) (k : Nat) : askN now lacks ps (pre ++ [k]) = askS now lacks (askN now lacks ps pre) k := by
 unfold askN
 rw [List.foldl_append]
 rfl
theorem fold_len (now : Int) (lacks : List ByteArray) : ∀ (pre : List Nat) (st : Prs × List (Nat × ByteArray)), (pre.foldl (askS now lacks) st).1.length = st.1.length
 | [], _ => rfl
 | k :: pre, st => by rw [List.foldl_cons, fold_len now lacks pre, askS_len]
theorem fold_other (now : Int) (lacks : List ByteArray) (i : Nat) : ∀ (pre : List Nat) (st : Prs × List (Nat × ByteArray)), i ∉ pre → pat (pre.foldl (askS now lacks) st).1 i = pat st.1 i
 | [], _, _ => rfl
 | k :: pre, st, h => by
  rw [List.foldl_cons, fold_other now lacks i pre _ (fun e => h (List.mem_cons_of_mem _ e)), askS_other _ _ _ _ _ (fun e => h (by rw [e]; exact List.mem_cons_self))]
theorem askN_len (now : Int) (lacks : List ByteArray) (ps : Prs) (pre : List Nat) : (askN now lacks ps pre).1.length = ps.length := fold_len now lacks pre (ps, [])
theorem askN_other (now : Int) (lacks : List ByteArray) (ps : Prs) (pre : List Nat) (i : Nat) (h : i ∉ pre) : pat (askN now lacks ps pre).1 i = pat ps i := fold_other now lacks i pre (ps, []) h
theorem askS_out (now : Int) (lacks : List ByteArray) (st : Prs × List (Nat × ByteArray)) (k : Nat) : (askS now lacks st k).2.length ≤ st.2.length + 1 := by
 unfold askS
 split
 ·omega
 ·simp
theorem fold_out (now : Int) (lacks : List ByteArray) : ∀ (pre : List Nat) (st : Prs × List (Nat × ByteArray)), (pre.foldl (askS now lacks) st).2.length ≤ st.2.length + pre.length
 | [], _ => Nat.le_refl _
 | k :: pre, st => by
  have h1 := fold_out now lacks pre (askS now lacks st k)
  have h2 := askS_out now lacks st k
  rw [List.foldl_cons, List.length_cons]
  omega
theorem askN_out (now : Int) (lacks : List ByteArray) (ps : Prs) (pre : List Nat) : (askN now lacks ps pre).2.length ≤ pre.length := by
 have := fold_out now lacks pre (ps, [])
 unfold askN
 simpa using this
/-- Who comes next, of those that were not looked at: -1 if there is none. -/
def Cand (ps : Prs) (pre : List Nat) (i : Nat) : Prop := i < ps.length ∧ i ∉ pre ∧ May (pat ps i)
def NextR (ps : Prs) (pre : List Nat) (r : Int) : Prop := (r = -1 ∧ ∀ i, ¬ Cand ps pre i) ∨ ∃ k : Nat, r = (k : Int) ∧ Cand ps pre k ∧ ∀ i, Cand ps pre i → i ≠ k → Sooner ps k i
/-- The first of the texts left that a peer may have. -/
theorem find_at {l : List ByteArray} {f : ByteArray → Bool} {i : Nat} (hi : i < l.length) (h1 : f (tv l i) = true) (h2 : ∀ j, j < i → f (tv l j) = false) : l.find? f = some (tv l i) := by
 have e : ∀ j, (h : j < l.length) → tv l j = l[j] := fun j h => by simp [tv, h]
 rw [List.find?_eq_some_iff_getElem]
 refine ⟨h1, i, hi, (e i hi).symm, fun j hj => ?_⟩
 have := h2 j hj
 rw [e j (by omega)] at this
 simp [this]
theorem find_no {l : List ByteArray} {f : ByteArray → Bool} (h : ∀ j, j < l.length → f (tv l j) = false) : l.find? f = none := by
 rw [List.find?_eq_none]
 intro x hx
 obtain ⟨j, hj, rfl⟩ := List.getElem_of_mem hx
 have := h j hj
 rw [show tv l j = l[j] by simp [tv, hj]] at this
 simp [this]
/-- What is left to be asked for. -/
def leftL (ps : Prs) (lacks : List ByteArray) : List ByteArray := lacks.filter fun s => !askd ps s
theorem choice_left (ps : Prs) (lacks : List ByteArray) (k : Nat) : choice ps lacks k = (leftL ps lacks).find? fun s => !inB (pat ps k).nots s := by
 unfold choice leftL
 rw [List.find?_filter]
 congr 1
 funext s
 cases askd ps s <;> cases inB (pat ps k).nots s <;> rfl
theorem erase_at : ∀ (l : List ByteArray), l.Nodup → ∀ (i : Nat) (hi : i < l.length), l.eraseIdx i = l.filter fun s => decide (s ≠ l[i])
 | [], _, i, hi => by simp at hi
 | x :: l, hn, 0, _ => by
  rw [List.nodup_cons] at hn
  simp only [List.eraseIdx_cons_zero, List.getElem_cons_zero, List.filter_cons]
  rw [if_neg (by simp), List.filter_eq_self.2]
  intro y hy
  simp only [ne_eq, decide_eq_true_eq]
  intro h; subst h; exact hn.1 hy
 | x :: l, hn, i + 1, hi => by
  rw [List.nodup_cons] at hn
  have hi' : i < l.length := by simpa using hi
  simp only [List.eraseIdx_cons_succ, List.getElem_cons_succ, List.filter_cons]
  rw [if_pos (by simp only [ne_eq, decide_eq_true_eq]; intro h; exact hn.1 (h ▸ List.getElem_mem hi')), erase_at l hn.2 i hi']
theorem erase_filter {l : List ByteArray} (hn : l.Nodup) {i : Nat} (hi : i < l.length) : l.eraseIdx i = l.filter fun s => decide (s ≠ tv l i) := by
 rw [show tv l i = l[i] by simp [tv, hi]]
 exact erase_at l hn i hi
theorem askd_put {ps : Prs} {k : Nat} {now : Int} {s x : ByteArray} (hk : k < ps.length) (hw : (pat ps k).wait = 0) : askd (ps.set k (askP (pat ps k) now s)) x = (askd ps x || decide (x = s)) := by
 rw [Bool.eq_iff_iff, Bool.or_eq_true, askd_iff, askd_iff, decide_eq_true_eq]
 constructor
 ·rintro ⟨i, hi, h1, h2⟩
  rw [List.length_set] at hi
  rw [pat_put _ _ _ _ hk] at h1 h2
  by_cases e : i = k
  ·rw [if_pos e] at h2; exact .inr h2.symm
  ·rw [if_neg e] at h1 h2; exact .inl ⟨i, hi, h1, h2⟩
 ·rintro (⟨i, hi, h1, h2⟩ | rfl)
  ·have e : i ≠ k := fun e => by subst e; exact h1 hw
   exact ⟨i, by rw [List.length_set]; exact hi, by rw [pat_put _ _ _ _ hk, if_neg e]; exact h1, by rw [pat_put _ _ _ _ hk, if_neg e]; exact h2⟩
  ·exact ⟨k, by rw [List.length_set]; exact hk, by rw [pat_put _ _ _ _ hk, if_pos rfl]; show (5 : Int) ≠ 0; decide, by rw [pat_put _ _ _ _ hk, if_pos rfl]; rfl⟩
theorem left_put {ps : Prs} {lacks : List ByteArray} (hn : lacks.Nodup) {k : Nat} {now : Int} {i : Nat} (hk : k < ps.length) (hw : (pat ps k).wait = 0) (hi : i < (leftL ps lacks).length) : (leftL ps lacks).eraseIdx i = leftL (ps.set k (askP (pat ps k) now (tv (leftL ps lacks) i))) lacks := by
 have hn' : (leftL ps lacks).Nodup := hn.sublist List.filter_sublist
 rw [erase_filter hn' hi]
 generalize tv (leftL ps lacks) i = s
 unfold leftL
 rw [List.filter_filter]
 congr 1
 funext x
 rw [askd_put hk hw]
 cases askd ps x <;> by_cases e : x = s <;> simp [e]
/-- One peer is asked, out of what is left. -/
theorem ask_hit {ps : Prs} {out : List (Nat × ByteArray)} {lacks : List ByteArray} {k : Nat} {now : Int} {i : Nat} (hi : i < (leftL ps lacks).length) (h1 : inB (pat ps k).nots (tv (leftL ps lacks) i) = false) (h2 : ∀ j, j < i → inB (pat ps k).nots (tv (leftL ps lacks) j) = true) : askS now lacks (ps, out) k = (ps.set k (askP (pat ps k) now (tv (leftL ps lacks) i)), out ++ [(k, tv (leftL ps lacks) i)]) := by
 unfold askS
 have e : choice (ps, out).1 lacks k = some (tv (leftL ps lacks) i) := by
  show choice ps lacks k = _
  rw [choice_left]
  exact find_at hi (by simp [h1]) (fun j hj => by simp [h2 j hj])
 rw [e]
theorem ask_miss {ps : Prs} {out : List (Nat × ByteArray)} {lacks : List ByteArray} {k : Nat} {now : Int} (h : ∀ j, j < (leftL ps lacks).length → inB (pat ps k).nots (tv (leftL ps lacks) j) = true) : askS now lacks (ps, out) k = (ps, out) := by
 unfold askS
 have e : choice (ps, out).1 lacks k = none := by
  show choice ps lacks k = _
  rw [choice_left]
  exact find_no (fun j hj => by simp [h j hj])
 rw [e]
theorem addL_nodup {wd : Int} {its : Itms} {out : List ByteArray} {s : ByteArray} (h : out.Nodup) : (addL wd its out s).Nodup := by
 unfold addL
 split
 ·next hc =>
  rw [List.nodup_append]
  refine ⟨h, by simp, fun a ha b hb e => ?_⟩
  rw [List.mem_singleton] at hb
  subst hb; subst e
  have := (inB_iff out a).2 ha
  rw [hc.2] at this
  cases this
 ·exact h
theorem foldL_nodup (wd : Int) (its : Itms) : ∀ (l out : List ByteArray), out.Nodup → (l.foldl (addL wd its) out).Nodup
 | [], _, h => h
 | _ :: l, _, h => foldL_nodup wd its l _ (addL_nodup h)
theorem LackU.nodup {wd : Int} {its : Itms} {name : ByteArray} {o : List ByteArray} (h : LackU wd its name o) : o.Nodup := by
 rcases h with ⟨_, _, _, rfl⟩ | ⟨n, ss, _, rfl⟩
 ·simp
 ·exact foldL_nodup wd its _ [] List.nodup_nil
/-- What comes of a valid fetch. -/
def TickS (nm : ByteArray) (now : Int) (full : Bool) (wd : Int) (its : Itms) (ps : Prs) (now' : Int) (ps' : Prs) (out : List (Nat × ByteArray)) : Prop :=
 (1000000 ≤ now ∧ now' = now ∧ ps' = ps ∧ out = []) ∨
 (now < 1000000 ∧ now' = now + 1 ∧ full = true ∧ ps' = ps.map waitP ∧ out = []) ∨
 (now < 1000000 ∧ now' = now + 1 ∧ full = false ∧ ∃ lacks ord, LackU wd its nm lacks ∧ Turns (ps.map waitP) ord ∧ ps' = (askN (now + 1) lacks (ps.map waitP) ord).1 ∧ out = (askN (now + 1) lacks (ps.map waitP) ord).2)
theorem TickS.uniq {nm : ByteArray} {now : Int} {full : Bool} {wd : Int} {its : Itms} {ps : Prs} {n1 n2 : Int} {p1 p2 : Prs} {o1 o2 : List (Nat × ByteArray)} (hN : (sumsL wd its).Pairwise (· < ·)) (h : TickS nm now full wd its ps n1 p1 o1) (k : TickS nm now full wd its ps n2 p2 o2) : n1 = n2 ∧ p1 = p2 ∧ o1 = o2 := by
 rcases h with ⟨h1, rfl, rfl, rfl⟩ | ⟨h1, rfl, h2, rfl, rfl⟩ | ⟨h1, rfl, h2, la, oa, h3, h4, rfl, rfl⟩ <;> rcases k with ⟨k1, rfl, rfl, rfl⟩ | ⟨k1, rfl, k2, rfl, rfl⟩ | ⟨k1, rfl, k2, lb, ob, k3, k4, rfl, rfl⟩
 ·exact ⟨rfl, rfl, rfl⟩
 ·omega
 ·omega
 ·omega
 ·exact ⟨rfl, rfl, rfl⟩
 ·rw [h2] at k2; cases k2
 ·omega
 ·rw [h2] at k2; cases k2
 ·obtain rfl := h3.uniq hN k3
  obtain rfl := h4.uniq k4
  exact ⟨rfl, rfl, rfl⟩
/-- What FetchTick answers. -/
def TickR (nm : ByteArray) (now : Int) (full : Bool) (wd room : Int) (its : Itms) (ts : List ByteArray) (ps : Prs) (nm' : ByteArray) (now' : Int) (full' : Bool) (wd' room' : Int) (its' : Itms) (ts' : List ByteArray) (ps' : Prs) (out : List (Nat × ByteArray)) : Prop :=
 (¬ ValidF nm now wd room its ts ps ∧ nm' = ⟨#[]⟩ ∧ now' = 0 ∧ full' = false ∧ wd' = 0 ∧ room' = 0 ∧ its' = [] ∧ ts' = [] ∧ ps' = [] ∧ out = []) ∨
 (ValidF nm now wd room its ts ps ∧ nm' = nm ∧ full' = full ∧ wd' = wd ∧ room' = room ∧ its' = its ∧ ts' = ts ∧ TickS nm now full wd its ps now' ps' out)
theorem tick_same {nm : ByteArray} {now : Int} {full : Bool} {wd room : Int} {its : Itms} {ts : List ByteArray} {ps : Prs} {n1 n2 : ByteArray} {w1 w2 : Int} {f1 f2 : Bool} {x1 x2 r1 r2 : Int} {i1 i2 : Itms} {t1 t2 : List ByteArray} {p1 p2 : Prs} {o1 o2 : List (Nat × ByteArray)} (h : TickR nm now full wd room its ts ps n1 w1 f1 x1 r1 i1 t1 p1 o1) (k : TickR nm now full wd room its ts ps n2 w2 f2 x2 r2 i2 t2 p2 o2) : n1 = n2 ∧ w1 = w2 ∧ f1 = f2 ∧ x1 = x2 ∧ r1 = r2 ∧ i1 = i2 ∧ t1 = t2 ∧ p1 = p2 ∧ o1 = o2 := by
 rcases h with ⟨h1, rfl, rfl, rfl, rfl, rfl, rfl, rfl, rfl, rfl⟩ | ⟨h1, rfl, rfl, rfl, rfl, rfl, rfl, h2⟩ <;> rcases k with ⟨k1, rfl, rfl, rfl, rfl, rfl, rfl, rfl, rfl, rfl⟩ | ⟨k1, rfl, rfl, rfl, rfl, rfl, rfl, k2⟩
 ·exact ⟨rfl, rfl, rfl, rfl, rfl, rfl, rfl, rfl, rfl⟩
 ·exact absurd k1 h1
 ·exact absurd h1 k1
 ·obtain ⟨rfl, rfl, rfl⟩ := h2.uniq (sums_asc h1.store.each) k2
  exact ⟨rfl, rfl, rfl, rfl, rfl, rfl, rfl, rfl, rfl⟩
theorem none_list : (⟨#[]⟩ : ByteArray).toList = [] := by rw [ByteArray.toList_eq]
theorem waitP_ok {now wd : Int} {p : Pr} (h : PrOk now wd p) : PrOk (now + 1) wd (waitP p) := by
 have h1 := h.wait
 have h2 := h.last
 unfold waitP
 split
 ·exact ⟨h.lies, h.wait, ⟨h2.1, by omega⟩, h.many, h.asked, h.nots⟩
 ·split
  ·exact ⟨h.lies, ⟨Int.le_refl _, by show (0 : Int) ≤ 5; decide⟩, ⟨h2.1, by show p.last ≤ now + 1; omega⟩, h.many, .inl ⟨rfl, none_list⟩, h.nots⟩
  ·refine ⟨h.lies, ⟨by show 0 ≤ p.wait - 1; omega, by show p.wait - 1 ≤ 5; omega⟩, ⟨h2.1, by show p.last ≤ now + 1; omega⟩, h.many, .inr ⟨by show 0 < p.wait - 1; omega, ?_⟩, h.nots⟩
   rcases h.asked with h3 | h3
   ·omega
   ·exact h3.2
theorem askP_ok {now wd : Int} {p : Pr} {s : ByteArray} (h : PrOk now wd p) (h0 : 0 ≤ now) (hs : (s.size : Int) = wd) : PrOk now wd (askP p now s) :=
 ⟨h.lies, by show (0 : Int) ≤ 5 ∧ (5 : Int) ≤ 5; decide, ⟨by show -1 ≤ now; omega, Int.le_refl _⟩, h.many, .inr ⟨by show (0 : Int) < 5; decide, hs⟩, h.nots⟩
theorem choice_mem {ps : Prs} {lacks : List ByteArray} {k : Nat} {s : ByteArray} (h : choice ps lacks k = some s) : s ∈ lacks := List.mem_of_find?_eq_some h
theorem pat_map (ps : Prs) (i : Nat) (h : i < ps.length) : pat (ps.map waitP) i = waitP (pat ps i) := by simp [pat, h]
theorem askS_ok {now wd : Int} {lacks : List ByteArray} (h0 : 0 ≤ now) (hl : ∀ s ∈ lacks, (s.size : Int) = wd) {st : Prs × List (Nat × ByteArray)} {k : Nat} (h : ∀ i, i < st.1.length → PrOk now wd (pat st.1 i)) : ∀ i, i < (askS now lacks st k).1.length → PrOk now wd (pat (askS now lacks st k).1 i) := by
 unfold askS
 split
 ·exact h
 ·next s e =>
  intro i hi
  have hi' : i < st.1.length := by simpa using hi
  show PrOk now wd (pat (st.1.set k _) i)
  by_cases hk : k < st.1.length
  ·rw [pat_put _ _ _ _ hk]
   split
   ·exact askP_ok (h k hk) h0 (hl s (choice_mem e))
   ·exact h i hi'
  ·rw [List.set_eq_of_length_le (by omega)]; exact h i hi'
theorem fold_ok {now wd : Int} {lacks : List ByteArray} (h0 : 0 ≤ now) (hl : ∀ s ∈ lacks, (s.size : Int) = wd) : ∀ (pre : List Nat) (st : Prs × List (Nat × ByteArray)), (∀ i, i < st.1.length → PrOk now wd (pat st.1 i)) → ∀ i, i < (pre.foldl (askS now lacks) st).1.length → PrOk now wd (pat (pre.foldl (askS now lacks) st).1 i)
 | [], _, h => h
 | _ :: pre, _, h => fold_ok h0 hl pre _ (askS_ok h0 hl h)
theorem ValidF.name_size {nm : ByteArray} {now wd room : Int} {its : Itms} {ts : List ByteArray} {ps : Prs} (h : ValidF nm now wd room its ts ps) : (nm.size : Int) = wd := okSums_size h.store.sums nm ((inB_iff ts nm).1 h.name)
theorem LackU.sizes {wd : Int} {its : Itms} {name : ByteArray} {o : List ByteArray} (h : LackU wd its name o) (hn : (name.size : Int) = wd) : ∀ s ∈ o, (s.size : Int) = wd := fun s hs => (h.few.2 s hs).elim (fun e => by rw [e]; exact hn) (fun h => h.1)
theorem TickS.valid {nm : ByteArray} {now : Int} {full : Bool} {wd room : Int} {its : Itms} {ts : List ByteArray} {ps : Prs} {now' : Int} {ps' : Prs} {out : List (Nat × ByteArray)} (hv : ValidF nm now wd room its ts ps) (h : TickS nm now full wd its ps now' ps' out) : ValidF nm now' wd room its ts ps' := by
 have ht := hv.time
 have hw : ∀ i, i < (ps.map waitP).length → PrOk (now + 1) wd (pat (ps.map waitP) i) := fun i hi => by
  have hi' : i < ps.length := by simpa using hi
  rw [pat_map ps i hi']
  exact waitP_ok (hv.each i hi')
 rcases h with ⟨_, rfl, rfl, _⟩ | ⟨h1, rfl, _, rfl, _⟩ | ⟨h1, rfl, _, la, oa, h3, h4, rfl, _⟩
 ·exact hv
 ·exact ⟨hv.store, hv.name, ⟨by omega, by omega⟩, by rw [List.length_map]; exact hv.count, hw⟩
 ·refine ⟨hv.store, hv.name, ⟨by omega, by omega⟩, by rw [askN_len, List.length_map]; exact hv.count, ?_⟩
  exact fold_ok (by omega) (h3.sizes hv.name_size) oa (ps.map waitP, []) hw
theorem few_nats : ∀ (n : Nat) (l : List Nat), l.Nodup → (∀ i ∈ l, i < n) → l.length ≤ n
 | 0, [], _, _ => Nat.le_refl _
 | 0, x :: _, _, h => absurd (h x List.mem_cons_self) (by omega)
 | n + 1, l, hn, h => by
  have h1 := few_nats n (l.erase n) (hn.erase n) fun i hi => by
   have h2 := (hn.mem_erase_iff).1 hi
   have := h i h2.2
   omega
  have h2 := List.length_erase (a := n) (l := l)
  split at h2 <;> omega
theorem Turns.len {ps : Prs} {a : List Nat} (h : Turns ps a) : a.length ≤ ps.length := few_nats _ a h.nodup fun i hi => ((h.mem i).1 hi).1
theorem TickS.out_len {nm : ByteArray} {now : Int} {full : Bool} {wd : Int} {its : Itms} {ps : Prs} {now' : Int} {ps' : Prs} {out : List (Nat × ByteArray)} (h : TickS nm now full wd its ps now' ps' out) : out.length ≤ ps.length := by
 rcases h with ⟨_, _, _, rfl⟩ | ⟨_, _, _, _, rfl⟩ | ⟨_, _, _, la, oa, _, h4, _, rfl⟩
 ·simp
 ·simp
 ·have h1 := askN_out (now + 1) la (ps.map waitP) oa
  have h2 := h4.len
  rw [List.length_map] at h2
  omega
end Go.Proofs.YtkghbegdjeehaaaGreatDoor
/- A hunt whose peers or box change; ranges over its map of peers; (*impl.hunt).isAsked and impl.waitLess. -/
namespace Go.Proofs.YtkghbegdjeehaaaGreatDoor
open Go.RowKit
theorem pat_fst1 (qs : PV) (i : Nat) : pat (qs.map Prod.fst) i = qp qs i := by
 unfold pat qp
 rw [List.getD_eq_getElem?_getD, List.getElem?_map, List.getD_eq_getElem?_getD]
 cases qs[i]? <;> rfl
theorem qv_put (qs : PV) (m i : Nat) (q : Pr × Value) (h : m < qs.length) : qv (qs.set m q) i = if i = m then q.2 else qv qs i := by
 unfold qv
 rw [List.getD_eq_getElem?_getD, List.getElem?_set]
 by_cases e : m = i
 ·subst e; rw [if_pos rfl, if_pos h, if_pos rfl]; rfl
 ·rw [if_neg e, if_neg (fun h => e h.symm), ← List.getD_eq_getElem?_getD]
theorem qp_put (qs : PV) (m i : Nat) (q : Pr × Value) (h : m < qs.length) : qp (qs.set m q) i = if i = m then q.1 else qp qs i := by
 unfold qp
 rw [List.getD_eq_getElem?_getD, List.getElem?_set]
 by_cases e : m = i
 ·subst e; rw [if_pos rfl, if_pos h, if_pos rfl]; rfl
 ·rw [if_neg e, if_neg (fun h => e h.symm), ← List.getD_eq_getElem?_getD]
theorem fst_set (qs : PV) (i : Nat) (p : Pr) (v : Value) : (qs.set i (p, v)).map Prod.fst = (qs.map Prod.fst).set i p := by rw [List.map_set]
section
variable {w w' : World} {B C1 C2 hb pm sb mb : Nat} {vc : Value} {nm : ByteArray} {now : Int} {full : Bool} {wd room : Int} {its : Itms} {ts : List ByteArray} {qs : PV} {pbs : List Nat} {lv : Value} {lk : Bool}
theorem HuntAt.peer {i : Nat} {p' : Pr} (H : HuntAt w B C1 C2 hb pm sb mb vc nm now full wd room its ts qs pbs lv lk) (hi : i < qs.length) (hn : p'.nots = (qp qs i).nots) (T : But (fun b => b = pbs.getD i 0) w w') (pblk : Blk w' (pbs.getD i 0) 50 (pcells p' (qv qs i))) : HuntAt w' B C1 C2 hb pm sb mb vc nm now full wd room its ts (qs.set i (p', qv qs i)) pbs lv lk := by
 have e1 := H.s1; have e2 := H.s2; have e3 := H.b1; have e4 := H.b2; have e5 := H.b3; have e6 := H.b4
 have hpi := (H.peers.blk i hi).1
 have hl : (qs.set i (p', qv qs i)).length = qs.length := List.length_set
 have hq : ∀ j, qv (qs.set i (p', qv qs i)) j = qv qs j := fun j => by
  rw [qv_put qs i j _ hi]; split
  ·next e => rw [e]
  ·rfl
 have hP : ∀ j, (qp (qs.set i (p', qv qs i)) j).nots = (qp qs j).nots := fun j => by
  rw [qp_put qs i j _ hi]; split
  ·next e => rw [e]; exact hn
  ·rfl
 refine ⟨T.blk H.box (by omega), ⟨T.blk H.shelf.box (by omega), T.map H.shelf.map (by omega), T.row H.shelf.row (fun g e h => by have := H.s3 g e; omega), H.shelf.hs, H.shelf.hm, H.shelf.ne, H.shelf.ns, H.shelf.nm⟩, ⟨by rw [hl]; exact H.peers.len, by rw [hl]; exact T.map H.peers.map (by omega), fun j hj => ?_, fun j hj => ?_, fun j k hj hk => ?_, fun j k hj hk => ?_, fun j k hj hk => ?_⟩, H.s1, H.s2, H.s3, H.b1, H.b2, H.b3, H.b4, H.b5, H.b6, Nat.le_trans H.b7 T.size⟩
 ·rw [hl] at hj
  refine ⟨(H.peers.blk j hj).1, ?_⟩
  rw [hq, qp_put qs i j _ hi]
  by_cases e : j = i
  ·subst e; rw [if_pos rfl]; exact pblk
  ·rw [if_neg e]; exact T.blk (H.peers.blk j hj).2 (H.peers.ap2 j i hj hi e)
 ·rw [hl] at hj
  rw [hq, hP]
  exact T.row (H.peers.nots j hj) (fun g e h => H.peers.ap1 j i hj hi (by rw [e, h]))
 ·rw [hl] at hj hk; rw [hq]; exact H.peers.ap1 j k hj hk
 ·rw [hl] at hj hk; exact H.peers.ap2 j k hj hk
 ·rw [hl] at hj hk; rw [hq, hq]; exact H.peers.ap3 j k hj hk
theorem HuntAt.boxed {now' : Int} {lv' : Value} {lk' : Bool} (H : HuntAt w B C1 C2 hb pm sb mb vc nm now full wd room its ts qs pbs lv lk) (T : But (fun b => b = hb) w w') (box : Blk w' hb 95 #[.string nm, .int .i64 now', .bool full, .pointer (some ⟨sb, 0, none⟩), .map (some pm), lv', .bool lk']) : HuntAt w' B C1 C2 hb pm sb mb vc nm now' full wd room its ts qs pbs lv' lk' := by
 have e1 := H.s1; have e2 := H.s2; have e3 := H.b1; have e4 := H.b2; have e5 := H.b3; have e6 := H.b4; have e7 := H.b5
 refine ⟨box, ⟨T.blk H.shelf.box (by omega), T.map H.shelf.map (by omega), T.row H.shelf.row (fun g e h => by have := H.s3 g e; omega), H.shelf.hs, H.shelf.hm, H.shelf.ne, H.shelf.ns, H.shelf.nm⟩, ⟨H.peers.len, T.map H.peers.map (fun h => e7 h.symm), fun j hj => ⟨(H.peers.blk j hj).1, T.blk (H.peers.blk j hj).2 (by have := (H.peers.blk j hj).1; omega)⟩, fun j hj => T.row (H.peers.nots j hj) (fun g e h => by have := ((H.peers.nots j hj).lt g e).1; omega), H.peers.ap1, H.peers.ap2, H.peers.ap3⟩, H.s1, H.s2, H.s3, H.b1, H.b2, H.b3, H.b4, H.b5, H.b6, Nat.le_trans H.b7 T.size⟩
theorem HuntAt.later (H : HuntAt w B C1 C2 hb pm sb mb vc nm now full wd room its ts qs pbs lv lk) (T : Below w.heap.size w w') : HuntAt w' B C1 C2 hb pm sb mb vc nm now full wd room its ts qs pbs lv lk :=
 ⟨H.box.below T, ⟨H.shelf.box.below T, H.shelf.map.kept (grown_of_below T) (by simp), Below.row T H.shelf.row, H.shelf.hs, H.shelf.hm, H.shelf.ne, H.shelf.ns, H.shelf.nm⟩, H.peers.below T, H.s1, H.s2, H.s3, H.b1, H.b2, H.b3, H.b4, H.b5, H.b6, Nat.le_trans H.b7 T.size⟩
end
theorem key_int (key : Value) (kl : Lit) (h : keyOf Tryz.prog 3 key = some kl) : ∃ x, key = Value.int .i64 x := by
 obtain ⟨x, rfl, _⟩ := Maps.keyOf_int_inv Tryz.underlying3 h
 exact ⟨x, rfl⟩
theorem mapP_only (pbs : List Nat) (n : Nat) (j : Int) (h : Maps.has (mapP pbs n) (.int .i64 j) = true) : ∃ i : Nat, i < n ∧ j = ((i + 1 : Nat) : Int) := by
 by_cases hj : 1 ≤ j ∧ j ≤ (n : Int)
 ·exact ⟨(j - 1).toNat, by omega, by omega⟩
 ·rw [mapP_out pbs j n hj] at h; cases h
theorem entry_peer {pbs : List Nat} {n : Nat} {x : Int} {c : Value} {kl : Lit} {yd : DataW Unit} {yp : List MemPlace} (hkey : keyOf Tryz.prog 3 (.int .i64 x) = some kl) (hhas : Maps.has (mapP pbs n) kl = true) (hv : ptrElem c = some (yd, yp)) (hat : ∀ zd, (mapP pbs n).atKey kl zd = yd) : ∃ i : Nat, i < n ∧ x = ((i + 1 : Nat) : Int) ∧ kl = .int .i64 ((i + 1 : Nat) : Int) ∧ c = .pointer (some ⟨pbs.getD i 0, 0, none⟩) := by
 obtain ⟨x', ex, rfl, _⟩ := Maps.keyOf_int_inv Tryz.underlying3 hkey
 cases ex
 obtain ⟨i, hi, rfl⟩ := mapP_only pbs n x hhas
 refine ⟨i, hi, rfl, rfl, ?_⟩
 have h1 := hat yd
 rw [mapP_at pbs _ (i + 1) (by omega) n (by omega)] at h1
 subst h1
 rw [Nat.add_sub_cancel] at hv
 exact ptrElem_inv hv
theorem same_int (a b : Int) : (Lit.int .i64 a).sameKey (.int .i64 b) = decide (a = b) := by simp [Lit.sameKey]
theorem left_int {left : Lit → Bool} {a b : Nat} : (left (.int .i64 ((a + 1 : Nat) : Int)) && !(Lit.int .i64 ((a + 1 : Nat) : Int)).sameKey (.int .i64 ((b + 1 : Nat) : Int))) = false ↔ left (.int .i64 ((a + 1 : Nat) : Int)) = false ∨ a = b := by
 rw [same_int]
 cases left (.int .i64 ((a + 1 : Nat) : Int)) <;> simp <;> omega
/-- Whether a peer is told to be asked for a text. -/
def askA (qs : PV) (s : ByteArray) : Bool := qs.any fun q => decide (q.1.asked = s)
theorem askA_iff (qs : PV) (s : ByteArray) : askA qs s = true ↔ ∃ i, i < qs.length ∧ (qp qs i).asked = s := by
 unfold askA
 rw [List.any_eq_true]
 constructor
 ·rintro ⟨p, hp, h⟩
  obtain ⟨i, hi, rfl⟩ := List.getElem_of_mem hp
  exact ⟨i, hi, by simpa [qp, hi] using h⟩
 ·rintro ⟨i, hi, h⟩
  exact ⟨qs[i], List.getElem_mem hi, by simpa [qp, hi] using h⟩
set_option maxRecDepth 100000 in
set_option maxHeartbeats 4000000 in
theorem isAsked_any (hb pm sb mb : Nat) (vc : Value) (nm : ByteArray) (now : Int) (full : Bool) (wd room tot : Int) (its : Itms) (ts : List ByteArray) (qs : PV) (pbs : List Nat) (lv : Value) (lk : Bool) (s : ByteArray) (w : World) (H : HuntRd w hb pm sb mb vc nm now full wd room tot its ts qs pbs lv lk) :
  Calls Tryz.prog 91 #[.pointer (some ⟨hb, 0, none⟩), .string s] w fun e w' => e = .returned (.bool (askA qs s)) ∧ Below w.heap.size w w' := by
 have HH := hid H
 have x4 : w.cell? ⟨hb, 4, none⟩ = some (.map (some pm)) := H.box.cell 4
 have hmm := H.pmap
 have hpl := map_lt hmm
 clear H
 go_enter Tryz.func91, Tryz.ntmps91
 go_wp2_with (at_range; refine wpList_range_own _ rfl _ 93 rfl 3 98 keyed3 Tryz.underlying93 _ pm qs.length _ rfl hmm ?_; intro w3 hrg0 hg0 hs0)
 go_frame
 have HRG0 := hid hrg0
 have HB0 : Hid (Below w.heap.size w w3) := hid ⟨hg0.os, hg0.tape, hg0.output, hg0.size, fun k hk => hg0.block k hk (by simp)⟩
 have hw3 : w.heap.size + 1 ≤ w3.heap.size := by omega
 clear hmm hrg0 hg0 hs0 x4
 go_loopw [] (fun wr => ∃ (left : Lit → Bool) (cnt : Nat), wr.ranges Tryz.prog 3 ptrElem pm w.heap.size qs.length (mapP pbs qs.length) left cnt ∧ (∀ k, left k = true → Maps.has (mapP pbs qs.length) k = true) ∧ (∀ i, i < qs.length → left (.int .i64 ((i + 1 : Nat) : Int)) = false → (qp qs i).asked ≠ s) ∧ Below w.heap.size w wr) (fun wr => wr.rangeLeft pm w.heap.size)
 case atStart => exact ⟨_, _, HRG0.out, fun _ h => h, fun i hi h => (by rw [mapP_in pbs (i + 1) (by omega) qs.length (by omega)] at h; cases h), HB0.out⟩
 case round =>
  obtain ⟨left, cnt, hrg, hsub, hno, hbw⟩ := hrel
  have HRG := hid hrg
  have HSUB := hid hsub
  have HNO := hid hno
  have HBW := hid hbw
  clear hsub hno hbw
  go_wp2_with (at_next; refine wpList_next_ranges _ rfl _ rfl 3 keyed3 ptrElem (Value.int .i64) (fun v => v) key_int (fun v _ _ => ⟨v, rfl⟩) pm w.heap.size qs.length _ _ _ (by go_simp) hrg ?_ ?_)
  ·intro hc0 hl0
   have HD : Hid (askA qs s = false) := hid (by
    cases e : askA qs s with
    | false => rfl
    | true =>
     obtain ⟨i, hi, h⟩ := (askA_iff qs s).1 e
     exact absurd h (HNO.out i hi (hl0 _)))
   clear hl0 hrg
   go_wp2
   go_ret
   exact ⟨by rw [HD.out] <;> rfl, HBW.out⟩
  ·intro x c kl yd yp w4 cnt1 hkey hlk hv hat hrg1 hlt hg1 hs1 hen
   obtain ⟨i, hi, rfl, rfl, rfl⟩ := entry_peer hkey (HSUB.out _ hlk) hv hat
   have HRG1 := hid hrg1
   have HSUB1 : Hid (∀ k, (left k && !k.sameKey (.int .i64 ((i + 1 : Nat) : Int))) = true → Maps.has (mapP pbs qs.length) k = true) := hid fun k h => HSUB.out k (by rw [Bool.and_eq_true] at h; exact h.1)
   have B4 : Below w.heap.size w w4 := HBW.out.trans ⟨hg1.os, hg1.tape, hg1.output, hg1.size, fun k hk => hg1.block k (by have := HBW.out.size; omega) (fun e => by have e' : k = w.heap.size := Option.some.inj e; omega)⟩
   have HB4 := hid B4
   have hpk := (HH.out.pblk i hi).below B4
   obtain ⟨pa, hpa⟩ : ∃ pa, pa = (qp qs i).asked := ⟨_, rfl⟩
   have c3 : w4.cell? ⟨pbs.getD i 0, 3, none⟩ = some (.string pa) := by rw [hpa]; exact hpk.cell 3
   have HPA := hid hpa
   generalize pbs.getD i 0 = pb at *
   clear hkey hlk hv hat hrg1 hg1 hrg B4 hpk hpa
   by_cases hps : pa = s
   ·have hae : (pa.toList == s.toList) = true := by rw [hps]; simp
    have HD : Hid (askA qs s = true) := hid ((askA_iff qs s).2 ⟨i, hi, by rw [← HPA.out]; exact hps⟩)
    clear hps
    go_wp2
    go_ret
    exact ⟨by rw [HD.out] <;> rfl, HB4.out⟩
   ·have hae : (pa.toList == s.toList) = false := by
     cases e : (pa.toList == s.toList) with
     | false => rfl
     | true => exact absurd (text_eq (by simpa using e)) hps
    have HN1 : Hid (∀ j, j < qs.length → (left (.int .i64 ((j + 1 : Nat) : Int)) && !(Lit.int .i64 ((j + 1 : Nat) : Int)).sameKey (.int .i64 ((i + 1 : Nat) : Int))) = false → (qp qs j).asked ≠ s) := hid fun j hj h => (left_int.1 h).elim (HNO.out j hj) (fun e => by rw [e, ← HPA.out]; exact hps)
    clear hps
    go_wp2
    refine ⟨⟨_, cnt1, HRG1.out, HSUB1.out, HN1.out, HB4.out⟩, ?_⟩
    rw [HRG1.out.left_eq, HRG.out.left_eq]
    omega
set_option maxRecDepth 100000 in
set_option maxHeartbeats 1000000 in
theorem waitLess_any (pb : Nat) (p : Pr) (v : Value) (w : World) (hblk : Blk w pb 50 (pcells p v)) (hp : 0 ≤ p.wait ∧ p.wait ≤ 5) :
  Calls Tryz.prog 52 #[.pointer (some ⟨pb, 0, none⟩)] w fun e w' => e = .returned (.tuple #[]) ∧ Blk w' pb 50 (pcells (waitP p) v) ∧ w.grownBy w' (some pb) := by
 obtain ⟨pl, pw, pt, pa, pn⟩ := p
 dsimp only at hp
 have HB := hid hblk
 have c1 : w.cell? ⟨pb, 1, none⟩ = some (.int .i64 pw) := hblk.cell 1
 have f1 := hblk.fz 1
 have b2 : Blk (w.setCell ⟨pb, 1, none⟩ (.int .i64 (pw - 1))) pb 50 #[.int .i64 pl, .int .i64 (pw - 1), .int .i64 pt, .string pa, v] := hblk.set 1 (.int .i64 (pw - 1))
 have c2 : (w.setCell ⟨pb, 1, none⟩ (.int .i64 (pw - 1))).cell? ⟨pb, 1, none⟩ = some (.int .i64 (pw - 1)) := b2.cell 1
 have c3 : (w.setCell ⟨pb, 1, none⟩ (.int .i64 (pw - 1))).cell? ⟨pb, 3, none⟩ = some (.string pa) := b2.cell 3
 have f3 := b2.fz 3
 have HB2 := hid b2
 have hwr : IntKind.i64.wrap (pw - 1) = pw - 1 := by rw [IntKind.wrap_i64]; omega
 clear hblk b2
 by_cases h0 : pw = 0
 ·have e0 : (pw == 0) = true := by simpa using h0
  have HW : Hid (waitP ⟨pl, pw, pt, pa, pn⟩ = ⟨pl, pw, pt, pa, pn⟩) := hid (by unfold waitP; rw [if_pos h0])
  clear h0
  go_enter Tryz.func52, Tryz.ntmps52
  go_wp2
  exact bodyPost_ret (results_none rfl _ _ _) rfl ⟨rfl, by rw [HW.out]; exact HB.out, grown_refl2 _ _⟩
 ·have e0 : (pw == 0) = false := by simpa using h0
  by_cases h1 : pw = 1
  ·have e1 : (pw - 1 == 0) = true := by rw [h1]; rfl
   have HW : Hid (waitP ⟨pl, pw, pt, pa, pn⟩ = ⟨pl, pw - 1, pt, ⟨#[]⟩, pn⟩) := hid (by unfold waitP; rw [if_neg h0, if_pos h1, h1]; rfl)
   clear h0 h1
   go_enter Tryz.func52, Tryz.ntmps52
   go_wp2
   exact bodyPost_end (results_none rfl _ _ _) rfl ⟨rfl, by rw [HW.out]; exact HB2.out.set 3 (.string ⟨#[]⟩), grown_same (grownBy_setCellAt w pb 1 _) (grownBy_setCellAt _ pb 3 _)⟩
  ·have e1 : (pw - 1 == 0) = false := by
    cases e : (pw - 1 == 0) with
    | false => rfl
    | true => rw [beq_iff_eq] at e; omega
   have HW : Hid (waitP ⟨pl, pw, pt, pa, pn⟩ = ⟨pl, pw - 1, pt, pa, pn⟩) := hid (by unfold waitP; rw [if_neg h0, if_neg h1])
   clear h0 h1
   go_enter Tryz.func52, Tryz.ntmps52
   go_wp2
   exact bodyPost_end (results_none rfl _ _ _) rfl ⟨rfl, by rw [HW.out]; exact HB2.out, grownBy_setCellAt w pb 1 _⟩
end Go.Proofs.YtkghbegdjeehaaaGreatDoor
