import Derived.Test.YtkjdabnglcabiaaGreatDoorLoadUnder
import Derived.Test.YtkjdabnglcabiaaGreatDoorSetIs
import Derived.Test.YtkjdabnglcabiaaGreatDoorInList
import Derived.Test.YtkjdabnglcabiaaGreatDoorBuildSpec
import Derived.Test.YtkjdabnglcabiaaGreatDoorNamesLaw
import Derived.Test.YtkjdabnglcabiaaGreatDoorSaveMath
import Derived.Test.YtkjdabnglcabiaaGreatDoorBend
/- What a list lacks: the sums whose pieces are not there, each once, in their order. -/
namespace Go.Proofs.YtkjdabnglcabiaaGreatDoor
open Go.RowKit
def lkB (wd : Int) (its : Itms) (s : ByteArray) : Bool := (List.range its.length).all fun i => decide (sumX wd (itx its i) ≠ s)
theorem lkB_iff (wd : Int) (its : Itms) (s : ByteArray) : lkB wd its s = true ↔ Absent wd its s := by
 unfold lkB Absent
 simp [List.all_eq_true]
def addL (wd : Int) (its : Itms) (out : List ByteArray) (s : ByteArray) : List ByteArray := if lkB wd its s = true ∧ inB out s = false then out ++ [s] else out
def lackN (wd : Int) (its : Itms) (ss : List ByteArray) (k : Nat) : List ByteArray := (ss.take k).foldl (addL wd its) []
theorem lackN_succ {wd : Int} {its : Itms} {ss : List ByteArray} {k : Nat} (h : k < ss.length) : lackN wd its ss (k + 1) = addL wd its (lackN wd its ss k) (tv ss k) := by
 unfold lackN
 rw [List.take_succ_eq_append_getElem h, List.foldl_append]
 have e : tv ss k = ss[k] := by simp [tv, h]
 rw [e]
 rfl
theorem addL_len (wd : Int) (its : Itms) (out : List ByteArray) (s : ByteArray) : (addL wd its out s).length ≤ out.length + 1 := by
 unfold addL
 split <;> simp
theorem foldL_len (wd : Int) (its : Itms) : ∀ (l out : List ByteArray), (l.foldl (addL wd its) out).length ≤ out.length + l.length
 | [], _ => Nat.le_refl _
 | s :: l, out => by
  have h1 := foldL_len wd its l (addL wd its out s)
  have h2 := addL_len wd its out s
  simp only [List.foldl_cons, List.length_cons]
  omega
theorem lackN_len (wd : Int) (its : Itms) (ss : List ByteArray) (k : Nat) : (lackN wd its ss k).length ≤ k := by
 have h := foldL_len wd its (ss.take k) []
 have h2 := List.length_take_le k ss
 unfold lackN
 simp only [List.length_nil] at h
 omega
theorem foldL_mem (wd : Int) (its : Itms) : ∀ (l out : List ByteArray) (x : ByteArray), x ∈ l.foldl (addL wd its) out → x ∈ out ∨ x ∈ l
 | [], _, _, h => .inl h
 | s :: l, out, x, h => by
  rcases foldL_mem wd its l (addL wd its out s) x h with h1 | h1
  ·unfold addL at h1
   split at h1
   ·rcases List.mem_append.1 h1 with h2 | h2
    ·exact .inl h2
    ·exact .inr (by rw [List.mem_singleton.1 h2]; exact List.mem_cons_self)
   ·exact .inl h1
  ·exact .inr (List.mem_cons_of_mem _ h1)
theorem lackN_mem {wd : Int} {its : Itms} {ss : List ByteArray} {k : Nat} {x : ByteArray} (h : x ∈ lackN wd its ss k) : x ∈ ss := by
 rcases foldL_mem wd its _ _ _ h with h | h
 ·cases h
 ·exact List.mem_of_mem_take h
theorem addL_have {wd : Int} {its : Itms} {out : List ByteArray} {s t : ByteArray} (h : Found wd its s t) : addL wd its out s = out := by
 unfold addL
 rw [if_neg]
 rintro ⟨h1, _⟩
 exact h.not ((lkB_iff wd its s).1 h1)
theorem addL_told {wd : Int} {its : Itms} {out : List ByteArray} {s : ByteArray} (h : inB out s = true) : addL wd its out s = out := by
 unfold addL
 rw [if_neg]
 rintro ⟨_, h1⟩
 rw [h] at h1
 cases h1
theorem addL_new {wd : Int} {its : Itms} {out : List ByteArray} {s : ByteArray} (h : Absent wd its s) (hn : inB out s = false) : addL wd its out s = out ++ [s] := by
 unfold addL
 rw [if_pos ⟨(lkB_iff wd its s).2 h, hn⟩]
/-- What a thing lacks. -/
def LackU (wd : Int) (its : Itms) (name : ByteArray) (out : List ByteArray) : Prop := (∃ n ss, UL wd its name n ss false ∧ out = [name]) ∨ (∃ n ss, UL wd its name n ss true ∧ out = lackN wd its ss ss.length)
theorem LackU.uniq {wd : Int} {its : Itms} {name : ByteArray} {o o' : List ByteArray} (hN : (sumsL wd its).Pairwise (· < ·)) (h : LackU wd its name o) (k : LackU wd its name o') : o = o' := by
 rcases h with ⟨n, ss, h, rfl⟩ | ⟨n, ss, h, rfl⟩ <;> rcases k with ⟨n', ss', k, rfl⟩ | ⟨n', ss', k, rfl⟩
 ·rfl
 ·obtain ⟨_, _, e⟩ := h.uniq hN k; cases e
 ·obtain ⟨_, _, e⟩ := h.uniq hN k; cases e
 ·obtain ⟨_, rfl, _⟩ := h.uniq hN k; rfl
theorem LackU.few {wd : Int} {its : Itms} {name : ByteArray} {o : List ByteArray} (h : LackU wd its name o) : o.length ≤ 375 ∧ ∀ x ∈ o, x = name ∨ ((x.size : Int) = wd ∧ isW wd = true) := by
 rcases h with ⟨n, ss, h, rfl⟩ | ⟨n, ss, h, rfl⟩
 ·exact ⟨by simp, fun x hx => .inl (List.mem_singleton.1 hx)⟩
 ·obtain ⟨h1, _, h3⟩ := h.few
  have := lackN_len wd its ss ss.length
  exact ⟨by omega, fun x hx => .inr (h3 x (lackN_mem hx))⟩
/-- What Lacks answers. -/
def LacksV (wd room : Int) (its : Itms) (ts : List ByteArray) (name : ByteArray) (out : List ByteArray) : Prop := (¬ (ValidSt wd room its ts ∧ (name.size : Int) = wd) ∧ out = []) ∨ ((ValidSt wd room its ts ∧ (name.size : Int) = wd) ∧ LackU wd its name out)
theorem LacksV.uniq {wd room : Int} {its : Itms} {ts : List ByteArray} {name : ByteArray} {o o' : List ByteArray} (h : LacksV wd room its ts name o) (k : LacksV wd room its ts name o') : o = o' := by
 rcases h with ⟨hn, rfl⟩ | ⟨hv, h⟩ <;> rcases k with ⟨kn, rfl⟩ | ⟨kv, k⟩
 ·rfl
 ·exact absurd kv hn
 ·exact absurd hv kn
 ·exact h.uniq (sums_asc hv.1.each) k
theorem LacksV.len {wd room : Int} {its : Itms} {ts : List ByteArray} {name : ByteArray} {o : List ByteArray} (h : LacksV wd room its ts name o) : o.length ≤ 375 := by
 rcases h with ⟨_, rfl⟩ | ⟨_, h⟩
 ·simp
 ·exact h.few.1
end Go.Proofs.YtkjdabnglcabiaaGreatDoor
/- What is described is built again. -/
namespace Go.Proofs.YtkjdabnglcabiaaGreatDoor
open Go.RowKit
theorem cat_pieces (t : ByteArray) (h : t.size ≤ 3000) : catB (piecesOf t) = t := by
 have h1 := pcs_text t _ 0 (piecesOf_pcs t h)
 rw [List.drop_zero] at h1
 rcases t with ⟨⟨l⟩⟩
 have h2 : l = ((piecesOf ⟨⟨l⟩⟩).map fun p => p.data.toList).flatten := h1
 show (⟨((piecesOf ⟨⟨l⟩⟩).flatMap fun p => p.data.toList).toArray⟩ : ByteArray) = ⟨⟨l⟩⟩
 rw [List.flatMap_def, ← h2]
theorem build_desc {t : ByteArray} {m : Int} (hw : isW m = true) (h : t.size ≤ 3000) : buildR (descN t m) (descS t m) (piecesOf t) m = .tuple #[.string t, .bool true] := by
 have hh : hasL t m = true := by simp [hasL, hw, h]
 have hc := cat_pieces t h
 have hz : total (piecesOf t) = t.size := by rw [← catB_size, hc]
 have hn : descN t m = t.size := by simp [descN, hh]
 have hs : descS t m = (piecesOf t).map (sumT m) := by simp [descS, hh]
 have hok : buildOk (descN t m) (descS t m) (piecesOf t) m = true := by
  unfold buildOk
  rw [desc_ok hw h, hc, hz]
  simp only [Bool.true_and, Bool.and_eq_true, decide_eq_true_eq]
  exact ⟨hn.symm, hs.symm, trivial⟩
 unfold buildR
 rw [if_pos hok, hc]
end Go.Proofs.YtkjdabnglcabiaaGreatDoor
/- What is saved is loaded again, also behind others being put and saved. -/
namespace Go.Proofs.YtkjdabnglcabiaaGreatDoor
open Go.RowKit
theorem found_iff {wd : Int} {its : Itms} {s t : ByteArray} : Found wd its s t ↔ ∃ u, (t, u) ∈ its ∧ sumX wd t = s := by
 constructor
 ·rintro ⟨i, hi, h1, rfl⟩
  exact ⟨its[i].2, by rw [itx_get its i hi]; exact List.getElem_mem hi, h1⟩
 ·rintro ⟨u, hm, h⟩
  obtain ⟨i, hi, e⟩ := List.getElem_of_mem hm
  have e1 : itx its i = t := by rw [itx_get its i hi, e]
  exact ⟨i, hi, by rw [e1]; exact h, e1.symm⟩
/-- What is needed is never given away. -/
theorem AwayN.keep {wd : Int} {Q : ByteArray → Prop} {its its' : Itms} {k : Nat} (h : AwayN wd Q its k its') (hN : (sumsL wd its).Pairwise (· < ·)) {p : ByteArray × Int} (hp : p ∈ its) (hq : Q (sumX wd p.1)) : p ∈ its' := by
 induction h with
 | zero => exact hp
 | step h hl ih =>
  rename_i its1 i
  rw [mem_erase (h.asc hN) i hl.lt]
  refine ⟨ih, fun e => hl.free ?_⟩
  rw [itx_get _ _ hl.lt, ← e]
  exact hq
theorem PutI.keep0 {wd room : Int} {Q : ByteArray → Prop} {its : Itms} {t : ByteArray} {now : Int} {a : Itms} (hN : (sumsL wd its).Pairwise (· < ·)) (h : PutI wd room Q its t now 0 a) {s x : ByteArray} (hf : Found wd its s x) (hq : Q s) : Found wd a s x := by
 cases h with
 | there i hi hs ht =>
  obtain ⟨j, hj, h1, rfl⟩ := hf
  have e : itx (its.set i (t, now)) j = itx its j := by
   rw [itx_get _ j (by rw [List.length_set]; exact hj), List.getElem_set]
   split
   ·next e => subst e; rw [ht]
   ·rw [itx_get _ j hj]
  exact ⟨j, by rw [List.length_set]; exact hj, by rw [e]; exact h1, e.symm⟩
 | put k its' hn ha hf' hb =>
  obtain ⟨u, hm, h1⟩ := found_iff.1 hf
  exact found_iff.2 ⟨u, (ins_mem wd its' t now _).2 (.inr (ha.keep hN hm (by rw [h1]; exact hq))), h1⟩
theorem PutI.new0 {wd room : Int} {Q : ByteArray → Prop} {its : Itms} {t : ByteArray} {now : Int} {a : Itms} (h : PutI wd room Q its t now 0 a) : Found wd a (sumX wd t) t := by
 cases h with
 | there i hi hs ht =>
  exact found_iff.2 ⟨now, List.mem_iff_getElem.2 ⟨i, by rw [List.length_set]; exact hi, by simp⟩, rfl⟩
 | put k its' hn ha hf' hb => exact found_iff.2 ⟨now, (ins_mem wd its' t now _).2 (.inl rfl), rfl⟩
/-- The list of a thing lies under its name, which is pinned. -/
structure Listed (wd : Int) (its : Itms) (ts : List ByteArray) (s nm : ByteArray) : Prop where
 pin : nm ∈ ts
 ok : okL (descN s wd) (descS s wd) wd = true
 form : Found wd its nm (formR (descN s wd) (descS s wd) wd)
theorem Listed.ul {wd : Int} {its : Itms} {ts : List ByteArray} {s nm : ByteArray} (h : Listed wd its ts s nm) : UL wd its nm (descN s wd) (descS s wd) true := ⟨_, .inl h.form, .inl ⟨rfl, h.ok, rfl⟩⟩
theorem Listed.need {wd : Int} {its : Itms} {ts : List ByteArray} {s nm : ByteArray} (h : Listed wd its ts s nm) {x : ByteArray} (hx : x = nm ∨ x ∈ descS s wd) : NeedTo wd its ts ts.length x := by
 obtain ⟨j, hj, e⟩ := List.getElem_of_mem h.pin
 have e1 : tv ts j = nm := by simp [tv, hj, e]
 refine ⟨j, hj, ?_⟩
 rw [e1]
 exact hx.imp id (fun hx => ⟨_, _, _, h.ul, hx⟩)
theorem Listed.put {wd room : Int} {its : Itms} {ts : List ByteArray} {s nm t : ByteArray} {now : Int} {a : Itms} (hN : (sumsL wd its).Pairwise (· < ·)) (h : Listed wd its ts s nm) (hp : PutI wd room (NeedTo wd its ts ts.length) its t now 0 a) : Listed wd a ts s nm :=
 ⟨h.pin, h.ok, hp.keep0 hN h.form (h.need (.inl rfl))⟩
/-- A thing that is saved: its list, and so many of its pieces. -/
structure Saved (wd : Int) (its : Itms) (ts : List ByteArray) (s nm : ByteArray) (k : Nat) : Prop where
 list : Listed wd its ts s nm
 has : ∀ i, i < k → i < (descS s wd).length → Found wd its (tv (descS s wd) i) (tv (piecesOf s) i)
theorem Saved.put {wd room : Int} {its : Itms} {ts : List ByteArray} {s nm t : ByteArray} {k : Nat} {now : Int} {a : Itms} (hN : (sumsL wd its).Pairwise (· < ·)) (h : Saved wd its ts s nm k) (hp : PutI wd room (NeedTo wd its ts ts.length) its t now 0 a) : Saved wd a ts s nm k :=
 ⟨h.list.put hN hp, fun i hi hl => hp.keep0 hN (h.has i hi hl) (h.list.need (.inr (by simp [tv, hl])))⟩
theorem Saved.pins {wd : Int} {its : Itms} {ts ts' : List ByteArray} {s nm : ByteArray} {k : Nat} (h : Saved wd its ts s nm k) (hs : ∀ x ∈ ts, x ∈ ts') : Saved wd its ts' s nm k := ⟨⟨hs _ h.list.pin, h.list.ok, h.list.form⟩, h.has⟩
theorem addT_sub {s : ByteArray} {ts : List ByteArray} {x : ByteArray} (h : x ∈ ts) : x ∈ addT s ts := by
 unfold addT
 split
 ·exact h
 ·rw [← List.take_append_drop (cutN s ts) ts] at h
  rcases List.mem_append.1 h with h | h
  ·exact List.mem_append.2 (.inl h)
  ·exact List.mem_append.2 (.inr (List.mem_cons_of_mem _ h))
theorem addT_self (s : ByteArray) (ts : List ByteArray) : s ∈ addT s ts := by
 unfold addT
 split
 ·next h => rw [← h.2]; simp [tv, h.1]
 ·exact List.mem_append.2 (.inr List.mem_cons_self)
theorem sumT_X (m : Int) (s : ByteArray) : sumT m s = sumX m s := rfl
/-- Texts that are put in leave what is saved. -/
theorem PutTo.saved {wd room : Int} {ts : List ByteArray} {now : Int} {its : Itms} {xs : List ByteArray} {s nm : ByteArray} {n : Nat} (hv : ValidSt wd room its ts) (hS : Saved wd its ts s nm n) {k : Nat} {b : Itms} (h : PutTo wd room ts now its xs k b) : Saved wd b ts s nm n := by
 induction h with
 | zero => exact hS
 | step h hk hp hi ih => exact ih.put (sums_asc (h.valid hv).each) hi
theorem hasL_of {s : ByteArray} {m : Int} (hw : isW m = true) (hs : s.size ≤ 3000) : hasL s m = true := by
 unfold hasL
 simp [hw, hs]
/-- A thing that is being saved. -/
theorem PutTo.saving {wd room : Int} {ts : List ByteArray} {now : Int} {its : Itms} {s : ByteArray} (hv : ValidSt wd room its ts) (hw : isW wd = true) (hs : s.size ≤ 3000) (hpin : nameB s wd ∈ ts) {k : Nat} {b : Itms} (h : PutTo wd room ts now its (saveX s wd) k b) : 1 ≤ k → Saved wd b ts s (nameB s wd) (k - 1) := by
 induction h with
 | zero => intro h; omega
 | step h hk hp hi ih =>
  rename_i k a b
  intro _
  have hL := hasL_of hw hs
  cases k with
  | zero =>
   have h1 := hi.new0
   have e0 : tv (saveX s wd) 0 = formR (descN s wd) (descS s wd) wd := rfl
   rw [e0] at h1
   have e1 : nameB s wd = sumX wd (formR (descN s wd) (descS s wd) wd) := by unfold nameB; rw [if_pos hL]; rfl
   refine ⟨⟨hpin, desc_ok hw hs, by rw [e1]; exact h1⟩, fun i hi _ => by omega⟩
  | succ k =>
   have h0 := (ih (by omega)).put (sums_asc (h.valid hv).each) hi
   refine ⟨h0.list, fun i hi2 hl => ?_⟩
   by_cases e : i < k
   ·exact h0.has i (by omega) hl
   ·obtain rfl : i = k := by omega
    have h1 := hi.new0
    have e0 : tv (saveX s wd) (i + 1) = tv (piecesOf s) i := rfl
    rw [e0] at h1
    have hd : descS s wd = (piecesOf s).map (sumT wd) := by unfold descS; rw [if_pos hL]
    have e1 : tv (descS s wd) i = sumX wd (tv (piecesOf s) i) := by
     rw [hd] at hl ⊢
     rw [List.length_map] at hl
     simp [tv, hl, sumT_X]
    rw [e1]
    exact h1
theorem SaveS.saved {wd room : Int} {its : Itms} {ts : List ByteArray} {s : ByteArray} {now : Int} {b : Itms} (hv : ValidSt wd room its ts) (hs : s.size ≤ 3000) (h : SaveS wd room its ts s now 0 b) : Saved wd b (addT (nameB s wd) ts) s (nameB s wd) (piecesOf s).length := by
 rcases h with ⟨_, h, _⟩ | ⟨_, _, h, _⟩ | ⟨h1, h2, ⟨_, h⟩ | ⟨h, _⟩⟩
 ·cases h
 ·cases h
 ·have := PutTo.saving (hv.pinned h1 h2) hv.width hs (addT_self _ _) h (by simp [saveX])
  simpa [saveX] using this
 ·exact absurd rfl h
theorem descS_eqlen {s : ByteArray} {m : Int} (hw : isW m = true) (hs : s.size ≤ 3000) : (descS s m).length = (piecesOf s).length := by
 unfold descS
 rw [if_pos (hasL_of hw hs), List.length_map]
/-- What is saved is loaded. -/
theorem Saved.load {wd room : Int} {its : Itms} {ts : List ByteArray} {s nm : ByteArray} {v : Value} (hv : ValidSt wd room its ts) (hs : s.size ≤ 3000) (h : Saved wd its ts s nm (piecesOf s).length) (hl : LoadV wd room its ts nm v) : v = .tuple #[.string s, .bool true] := by
 have hb := LoadR.build (wd := wd) (its := its) (name := nm) (descN s wd) (descS s wd) (piecesOf s) h.list.ul (descS_eqlen hv.width hs).symm (fun i hi => h.has i (by rw [← descS_eqlen hv.width hs]; exact hi) hi)
 rw [build_desc hv.width hs] at hb
 exact hl.uniq (.inr ⟨hv, hb⟩)
theorem lackN_none {wd : Int} {its : Itms} {ss : List ByteArray} (h : ∀ i, i < ss.length → ∃ t, Found wd its (tv ss i) t) : ∀ k, k ≤ ss.length → lackN wd its ss k = []
 | 0, _ => rfl
 | k + 1, hk => by
  obtain ⟨t, ht⟩ := h k (by omega)
  rw [lackN_succ (by omega), lackN_none h k (by omega), addL_have ht]
/-- Nothing of it is lacked. -/
theorem Saved.lacks {wd room : Int} {its : Itms} {ts : List ByteArray} {s nm : ByteArray} {out : List ByteArray} (hv : ValidSt wd room its ts) (hs : s.size ≤ 3000) (hn : (nm.size : Int) = wd) (h : Saved wd its ts s nm (piecesOf s).length) (hl : LacksV wd room its ts nm out) : out = [] := by
 refine hl.uniq (.inr ⟨⟨hv, hn⟩, .inr ⟨_, _, h.list.ul, ?_⟩⟩)
 exact (lackN_none (fun i hi => ⟨_, h.has i (by rw [← descS_eqlen hv.width hs]; exact hi) hi⟩) _ (Nat.le_refl _)).symm
/-- Bounds that all the contracts ask for. -/
structure SmallSt (its : Itms) (ts : List ByteArray) : Prop where
 li : its.length ≤ 1048576
 lp : ts.length ≤ 1048576
 si : ∀ i, (itx its i).size ≤ 1048576
 sp : ∀ i, (tv ts i).size ≤ 1048576
theorem ValidSt.smallSt {wd room : Int} {its : Itms} {ts : List ByteArray} (h : ValidSt wd room its ts) : SmallSt its ts :=
 ⟨by have := h.items; omega, by have := h.pins; omega, item_small h.each, pin_small h.sums (by have := h.width; simp [isW] at this; omega)⟩
theorem Saved.lacksV {wd room : Int} {its : Itms} {ts : List ByteArray} {s nm : ByteArray} (hv : ValidSt wd room its ts) (hs : s.size ≤ 3000) (hn : (nm.size : Int) = wd) (h : Saved wd its ts s nm (piecesOf s).length) : LacksV wd room its ts nm [] :=
 .inr ⟨⟨hv, hn⟩, .inr ⟨_, _, h.list.ul, (lackN_none (fun i hi => ⟨_, h.has i (by rw [← descS_eqlen hv.width hs]; exact hi) hi⟩) _ (Nat.le_refl _)).symm⟩⟩
/-- The thing that is saved first. -/
theorem SaveR.first {wd room : Int} {its : Itms} {ts : List ByteArray} {s : ByteArray} {now wd' room' : Int} {its' : Itms} {ts' : List ByteArray} (h : SaveR wd room its ts s now wd' room' its' ts' 0) :
  wd' = wd ∧ room' = room ∧ s.size ≤ 3000 ∧ ((nameB s wd).size : Int) = wd ∧ ValidSt wd room its' ts' ∧ Saved wd its' ts' s (nameB s wd) (piecesOf s).length := by
 rcases h with ⟨_, _, _, _, _, h0⟩ | ⟨ho, c, b, hs, hc, ⟨h0, _⟩ | ⟨rfl, rfl, rfl, rfl, rfl⟩⟩
 ·cases h0
 ·exact absurd hc.symm h0
 ·refine ⟨rfl, rfl, ho.2.1, ?_, hs.valid ho.1, hs.saved ho.1 ho.2.1⟩
  rcases hs with ⟨_, h, _⟩ | ⟨_, _, h, _⟩ | ⟨h, _⟩
  ·cases h
  ·cases h
  ·exact h
/-- Another one is saved. -/
theorem SaveR.keep {wd room : Int} {its : Itms} {ts : List ByteArray} {t : ByteArray} {now wd' room' : Int} {its' : Itms} {ts' : List ByteArray} {s nm : ByteArray} {n : Nat} (h : SaveR wd room its ts t now wd' room' its' ts' 0) (hS : Saved wd its ts s nm n) : wd' = wd ∧ room' = room ∧ ValidSt wd room its' ts' ∧ Saved wd its' ts' s nm n := by
 rcases h with ⟨_, _, _, _, _, h0⟩ | ⟨ho, c, b, hs, hc, ⟨h0, _⟩ | ⟨rfl, rfl, rfl, rfl, rfl⟩⟩
 ·cases h0
 ·exact absurd hc.symm h0
 ·refine ⟨rfl, rfl, hs.valid ho.1, ?_⟩
  rcases hs with ⟨_, h, _⟩ | ⟨_, _, h, _⟩ | ⟨h1, h2, ⟨_, h⟩ | ⟨h, _⟩⟩
  ·cases h
  ·cases h
  ·exact h.saved (ho.1.pinned h1 h2) (hS.pins fun x hx => addT_sub hx)
  ·exact absurd rfl h
theorem SaveR.none0 {wd room : Int} {its : Itms} {ts : List ByteArray} {t : ByteArray} {now wd' room' : Int} {its' : Itms} {ts' : List ByteArray} {code : Int} (h : SaveR wd room its ts t now wd' room' its' ts' code) (hc : code ≠ 0) : its' = [] ∧ ts' = [] := by
 rcases h with ⟨_, _, _, rfl, rfl, _⟩ | ⟨_, c, b, _, rfl, ⟨_, _, _, rfl, rfl⟩ | ⟨rfl, _⟩⟩
 ·exact ⟨rfl, rfl⟩
 ·exact ⟨rfl, rfl⟩
 ·exact absurd rfl hc
theorem small_none : SmallSt [] [] := ⟨by simp, by simp, fun i => by simp [itx], fun i => by simp [tv]⟩
theorem SaveR.smallSt {wd room : Int} {its : Itms} {ts : List ByteArray} {t : ByteArray} {now wd' room' : Int} {its' : Itms} {ts' : List ByteArray} {code : Int} (h : SaveR wd room its ts t now wd' room' its' ts' code) : SmallSt its' ts' := by
 by_cases hc : code = 0
 ·subst hc
  exact h.first.2.2.2.2.1.smallSt
 ·obtain ⟨rfl, rfl⟩ := h.none0 hc
  exact small_none
end Go.Proofs.YtkjdabnglcabiaaGreatDoor
/- l1Many of one byte: so many of it. -/
namespace Go.Proofs.YtkjdabnglcabiaaGreatDoor
open Go.RowKit
/-- So many of one byte. -/
def AllB (c : UInt8) (t : ByteArray) : Prop := ∀ x ∈ t.data.toList, x = c
theorem AllB.append {c : UInt8} {t u : ByteArray} (h : AllB c t) (k : AllB c u) : AllB c (t ++ u) := fun x hx => by
 rw [ByteArray.data_append, Array.toList_append] at hx
 exact (List.mem_append.1 hx).elim (h x) (k x)
set_option maxRecDepth 100000 in
set_option maxHeartbeats 1000000 in
theorem l1Many_one (c : UInt8) (n : Nat) (w : World) (hn : n ≤ 7001) :
  Calls Tryz.prog 16 #[.string ⟨#[c]⟩, .int .i64 n] w fun e w' => ∃ t : ByteArray, e = .returned (.string t) ∧ t.size = n ∧ AllB c t ∧ w' = w := by
 go_enter Tryz.func16, Tryz.ntmps16
 go_wp2
 go_loop [0, 1, 5] (fun x m out => ∃ (t u : ByteArray) (k : Nat), x = .string t ∧ m = .int .i64 k ∧ out = .string u ∧ u.size + t.size * k = n ∧ k ≤ n ∧ t.size ≤ 70000 ∧ AllB c t ∧ AllB c u) (fun _ m _ => (intOf m).toNat)
 case atStart => exact ⟨⟨#[c]⟩, ⟨#[]⟩, n, rfl, rfl, rfl, by show 0 + 1 * n = n; omega, by omega, by show 1 ≤ 70000; omega, fun x hx => by simpa using hx, fun x hx => by simp at hx⟩
 case round =>
  obtain ⟨t, u, k, rfl, rfl, rfl, h1, h2, h4, ht1, hu1⟩ := hrel
  have HT := hid ht1
  have HU := hid hu1
  clear ht1 hu1
  have hu : u.size ≤ 30010 := by omega
  by_cases hk : 0 < k
  ·have ht : t.size ≤ 30010 := by have := Nat.le_mul_of_pos_right t.size hk; omega
   by_cases hodd : k % 2 = 1
   ·have ho : ((k : Int) % 2 == 1) = true := by simp; omega
    obtain ⟨j, rfl⟩ : ∃ j, k = 2 * j + 1 := ⟨k / 2, by omega⟩
    have HJ : Hid (u.size + t.size + (t.size + t.size) * j = n) := by
     show _ = _
     rw [Nat.mul_add, Nat.mul_comm 2 j, ← Nat.mul_assoc] at h1; rw [Nat.add_mul]; omega
    clear h1
    go_wp2
    exact ⟨⟨t ++ t, u ++ t, j, rfl, by go_num, rfl, by rw [ByteArray.size_append, ByteArray.size_append]; exact HJ.out, by omega, by rw [ByteArray.size_append]; omega, HT.out.append HT.out, HU.out.append HT.out⟩, by simp [intOf]; omega⟩
   ·have ho : ((k : Int) % 2 == 1) = false := by simp; omega
    obtain ⟨j, rfl⟩ : ∃ j, k = 2 * j := ⟨k / 2, by omega⟩
    have HJ : Hid (u.size + (t.size + t.size) * j = n) := by
     show _ = _
     rw [Nat.mul_comm 2 j, ← Nat.mul_assoc] at h1; rw [Nat.add_mul]; omega
    clear h1
    go_wp2
    exact ⟨⟨t ++ t, u, j, rfl, by go_num, rfl, by rw [ByteArray.size_append]; exact HJ.out, by omega, by rw [ByteArray.size_append]; omega, HT.out.append HT.out, HU.out⟩, by simp [intOf]; omega⟩
  ·obtain rfl : k = 0 := by omega
   go_wp2
   go_ret
   exact ⟨u, rfl, by omega, HU.out, rfl⟩
end Go.Proofs.YtkjdabnglcabiaaGreatDoor
