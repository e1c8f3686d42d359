import Derived.Test.YtbihndholamdfaaGreatDoorTakeMath
import Derived.Test.YtbihndholamdfaaGreatDoorSaveMath
import Derived.Test.YtbihndholamdfaaGreatDoorMapPeers
import Derived.Test.YtbihndholamdfaaGreatDoorCopySpec
/- What FetchTake makes of a valid fetch is valid. -/
namespace Go.Proofs.YtbihndholamdfaaGreatDoor
open Go.RowKit
theorem pat_fst (qs : PV) (i : Nat) : pat (qs.map Prod.fst) i = qp qs i := by
 unfold pat qp
 rw [List.getD_eq_getElem?_getD, List.getElem?_map, List.getD_eq_getElem?_getD]
 cases qs[i]? <;> rfl
theorem prok_fits {now wd : Int} {p : Pr} (h : PrOk now wd p) (hw : wd ≤ 8) : PrFits 1048576 p := by
 refine ⟨?_, by have := h.many; omega, fun i => pin_small h.nots hw i⟩
 rcases h.asked with ⟨_, e⟩ | ⟨_, e⟩
 ·have e2 : p.asked.toList.length = 0 := by rw [e]; rfl
  rw [ByteArray.toList_eq] at e2
  have : p.asked.size = 0 := by simpa using e2
  omega
 ·omega
theorem empty_list : (⟨#[]⟩ : ByteArray).toList = [] := by rw [ByteArray.toList_eq]
theorem freeP_ok {now wd : Int} {p : Pr} (h : PrOk now wd p) : PrOk now wd (freeP p) := ⟨h.lies, ⟨Int.le_refl _, by show (0 : Int) ≤ 5; decide⟩, h.last, h.many, .inl ⟨rfl, empty_list⟩, h.nots⟩
theorem lieP_ok {now wd : Int} {p : Pr} (h : PrOk now wd p) : PrOk now wd (lieP p) := ⟨by
 show 0 ≤ (if p.lies + 1 > 3 then 3 else p.lies + 1) ∧ (if p.lies + 1 > 3 then 3 else p.lies + 1) ≤ 3
 have := h.lies
 split <;> omega, ⟨Int.le_refl _, by show (0 : Int) ≤ 5; decide⟩, h.last, h.many, .inl ⟨rfl, empty_list⟩, h.nots⟩
theorem codeP_ok {now wd : Int} {p : Pr} (h : PrOk now wd p) (code : Int) : PrOk now wd (codeP p code) := by
 unfold codeP
 split
 ·exact lieP_ok h
 ·exact freeP_ok h
theorem noteP_ok {now wd : Int} {p : Pr} (h : PrOk now wd p) (hw : p.wait ≠ 0) : PrOk now wd (noteP p p.asked) := by
 have hs : (p.asked.size : Int) = wd := by
  rcases h.asked with ⟨e, _⟩ | ⟨_, e⟩
  ·exact absurd e hw
  ·exact e
 have hn : (notsA p.asked p.nots).length ≤ 376 ∧ okSums wd (notsA p.asked p.nots) := by
  unfold notsA
  split
  ·next hl => exact ⟨hl, okSums_of (by rw [addT_eq]; exact putT_asc (okSums_asc h.nots)) fun t ht => (addT_mem ht).elim (fun e => by rw [e]; exact hs) (okSums_size h.nots t)⟩
  ·exact ⟨h.many, h.nots⟩
 exact ⟨h.lies, ⟨Int.le_refl _, by show (0 : Int) ≤ 5; decide⟩, h.last, hn.1, .inl ⟨rfl, empty_list⟩, hn.2⟩
theorem KeepR.valid {nm : ByteArray} {wd room : Int} {its : Itms} {ts : List ByteArray} {now : Int} {sum text : ByteArray} {c : Int} {a : Itms} (hV : ValidSt wd room its ts) (h : KeepR nm wd room its ts now sum text c a) : ValidSt wd room a ts := by
 rcases h with ⟨_, _, rfl⟩ | ⟨_, _, _, rfl⟩ | ⟨_, hp, x, hi, ⟨_, rfl⟩ | ⟨rfl, rfl⟩⟩
 ·exact hV
 ·exact hV
 ·exact hV
 ·exact hi.valid hV hp
theorem TakeS.valid {nm : ByteArray} {now : Int} {full : Bool} {wd room : Int} {its : Itms} {ts : List ByteArray} {ps : Prs} {fr tg : Int} {sum : ByteArray} {has : Bool} {text : ByteArray} {full' : Bool} {its' : Itms} {ps' : Prs} (hv : ValidF nm now wd room its ts ps) (h : TakeS nm now full wd room its ts ps fr tg sum has text full' its' ps') : ValidF nm now wd room its' ts ps' := by
 have hset : ∀ (ha : Asks ps fr tg sum) (p : Pr), PrOk now wd p → (1 ≤ (ps.set (fr - 1).toNat p).length ∧ (ps.set (fr - 1).toNat p).length ≤ 5) ∧ ∀ i, i < (ps.set (fr - 1).toNat p).length → PrOk now wd (pat (ps.set (fr - 1).toNat p) i) := fun ha p hp => by
  have hlt : (fr - 1).toNat < ps.length := by have h1 := ha.lo; have h2 := ha.hi; omega
  refine ⟨by rw [List.length_set]; exact hv.count, fun i hi => ?_⟩
  rw [List.length_set] at hi
  rw [pat_set ps _ i p hlt]
  split
  ·exact hp
  ·exact hv.each i hi
 rcases h with ⟨_, _, rfl, rfl⟩ | ⟨ha, _, _, rfl, rfl⟩ | ⟨ha, _, c, hk, _, rfl⟩
 ·exact hv
 ·have hlt : (fr - 1).toNat < ps.length := by have h1 := ha.lo; have h2 := ha.hi; omega
  have h1 := noteP_ok (hv.each _ hlt) ha.wait
  rw [ha.asked] at h1
  exact ⟨hv.store, hv.name, hv.time, (hset ha _ h1).1, (hset ha _ h1).2⟩
 ·have hlt : (fr - 1).toNat < ps.length := by have h1 := ha.lo; have h2 := ha.hi; omega
  have h1 := codeP_ok (hv.each _ hlt) c
  exact ⟨hk.valid hv.store, hv.name, hv.time, (hset ha _ h1).1, (hset ha _ h1).2⟩
theorem qv_setv (qs : PV) (m i : Nat) (q : Pr × Value) (h : m < qs.length) : qv (qs.set m q) i = if i = m then q.2 else qv qs i := by
 unfold qv
 rw [List.getD_eq_getElem?_getD, List.getElem?_set]
 by_cases e : m = i
 ·subst e; rw [if_pos rfl, if_pos h, if_pos rfl]; rfl
 ·rw [if_neg e, if_neg (fun h => e h.symm), ← List.getD_eq_getElem?_getD]
/-- A hunt in which one peer, the shelf or the box itself has changed. -/
theorem HuntAt.turn {w w' : World} {B C1 C2 hb pm sb mb : Nat} {vc : Value} {nm : ByteArray} {now : Int} {full : Bool} {wd room : Int} {its : Itms} {ts : List ByteArray} {qs : PV} {pbs : List Nat} {lv : Value} {lk : Bool} {full' lk' : Bool} {tot' : Int} {its' : Itms} {i : Nat} {p' : Pr} {v' : Value} (H : HuntAt w B C1 C2 hb pm sb mb vc nm now full wd room its ts qs pbs lv lk) (hi : i < qs.length) (T : But (fun b => b = hb ∨ b = sb ∨ b = mb ∨ b = pbs.getD i 0 ∨ (qv qs i).ownBlock = some b) w w')
  (box : Blk w' hb 106 #[.string nm, .int .i64 now, .bool full', .pointer (some ⟨sb, 0, none⟩), .map (some pm), lv, .bool lk']) (sbox : Blk w' sb 102 #[.int .i64 wd, .int .i64 room, .int .i64 tot', .map (some mb), vc]) (smap : w'.ownsMap Tryz.prog 9 itemElem mb its'.length (mapI wd its' its'.length)) (pblk : Blk w' (pbs.getD i 0) 57 (pcells p' v')) (nots : Reads w' v' p'.nots) : HuntRd w' hb pm sb mb vc nm now full' wd room tot' its' ts (qs.set i (p', v')) pbs lv lk' := by
 have e1 := H.s1; have e2 := H.s2; have e3 := H.b1; have e4 := H.b2; have e5 := H.b3; have e6 := H.b4; have e7 := H.b5
 have hpi := (H.peers.blk i hi).1
 have hvi : ∀ g, (qv qs i).ownBlock = some g → C2 ≤ g := fun g e => ((H.peers.nots i hi).lt g e).1
 have hlen : (qs.set i (p', v')).length = qs.length := List.length_set
 refine ⟨box, sbox, smap, Reads.of_row (T.row H.shelf.row fun g e h => ?_), ?_, fun j hj => ?_, fun j hj => ?_⟩
 ·have hg := H.s3 g e
  rcases h with h | h | h | h | h
  ·omega
  ·exact H.shelf.ns (by rw [e, h])
  ·exact H.shelf.nm (by rw [e, h])
  ·omega
  ·have := hvi g h; omega
 ·rw [hlen]
  refine T.map H.peers.map fun h => ?_
  rcases h with h | h | h | h | h
  ·omega
  ·omega
  ·omega
  ·omega
  ·have := hvi pm h; omega
 ·rw [hlen] at hj
  rw [qp_set qs i j _ hi, qv_setv qs i j _ hi]
  by_cases e : j = i
  ·subst e; rw [if_pos rfl, if_pos rfl]; exact pblk
  ·rw [if_neg e, if_neg e]
   have hb := H.peers.blk j hj
   refine T.blk hb.2 fun h => ?_
   rcases h with h | h | h | h | h
   ·have := hb.1; omega
   ·have := hb.1; omega
   ·have := hb.1; omega
   ·exact H.peers.ap2 j i hj hi e h
   ·exact H.peers.ap1 i j hi hj h
 ·rw [hlen] at hj
  rw [qp_set qs i j _ hi, qv_setv qs i j _ hi]
  by_cases e : j = i
  ·subst e; rw [if_pos rfl, if_pos rfl]; exact nots
  ·rw [if_neg e, if_neg e]
   refine Reads.of_row (T.row (H.peers.nots j hj) fun g eg h => ?_)
   have hg := ((H.peers.nots j hj).lt g eg).1
   rcases h with h | h | h | h | h
   ·omega
   ·omega
   ·omega
   ·exact H.peers.ap1 j i hj hi (by rw [eg, h])
   ·exact H.peers.ap3 j i hj hi e g eg h
end Go.Proofs.YtbihndholamdfaaGreatDoor
/- A peer stored into a row of peers. -/
namespace Go.Proofs.YtbihndholamdfaaGreatDoor
open Go.RowKit
theorem cellsQ_setv : ∀ (qs : PV) (i : Nat) (v : Value), i < qs.length → (cellsQ qs).set (i * 5 + 4) v = cellsQ (qs.set i (qp qs i, v))
 | [], _, _, h => absurd h (by simp)
 | (p, u) :: r, 0, v, _ => by simp [cellsQ, qp]
 | (p, u) :: r, i + 1, v, h => by
  have ih := cellsQ_setv r i v (by simpa using h)
  have e : (i + 1) * 5 + 4 = (i * 5 + 4) + 1 + 1 + 1 + 1 + 1 := by omega
  have c : ∀ (q : Pr × Value) (s : PV), cellsQ (q :: s) = .int .i64 q.1.lies :: .int .i64 q.1.wait :: .int .i64 q.1.last :: .string q.1.asked :: q.2 :: cellsQ s := fun q s => rfl
  have hq : qp ((p, u) :: r) (i + 1) = qp r i := by simp [qp]
  rw [e, c]
  simp only [List.set_cons_succ]
  rw [ih, hq, c]
theorem cellsQ_set5 (qs : PV) (i : Nat) (p : Pr) (v : Value) (h : i < qs.length) : (((((cellsQ qs).set (i * 5) (.int .i64 p.lies)).set (i * 5 + 1) (.int .i64 p.wait)).set (i * 5 + 2) (.int .i64 p.last)).set (i * 5 + 3) (.string p.asked)).set (i * 5 + 4) v = cellsQ (qs.set i (p, v)) := by
 rw [cellsQ_set4 qs i p h, cellsQ_setv _ i v (by rw [List.length_set]; exact h), qp_set qs i i _ h, if_pos rfl]
 simp
theorem row_setCell {w : World} {B size g n cap : Nat} {e : TypeId} {xs : List Value} (h : w.ownsRow B e size (.slice (some ⟨g, 0, none⟩) n cap) n xs) (j : Nat) (x : Value) : (w.setCell ⟨g, j, none⟩ x).ownsRow B e size (.slice (some ⟨g, 0, none⟩) n cap) n (xs.set j x) := by
 obtain ⟨h1, ⟨e, _⟩ | ⟨g', cap', cur, e1, e2, e3, e4, e5, e6, e7⟩⟩ := h
 ·cases e
 ·cases e1
  refine ⟨by rw [List.length_set]; exact h1, .inr ⟨g, cap, _, rfl, e2, Blk.set (show Blk w g e cur from e3) j x, e4, e5, by simp [e6], ?_⟩⟩
  rw [Array.toList_setIfInBounds, List.take_set, e7]
theorem row_fz {w : World} {B size g n m cap : Nat} {e : TypeId} {xs : List Value} (h : w.ownsRow B e size (.slice (some ⟨g, 0, none⟩) n cap) m xs) (i : Nat) : w.frozen? ⟨g, i, none⟩ = false := by
 obtain ⟨_, ⟨e, _⟩ | ⟨g', cap', cur, e1, e2, e3, _⟩⟩ := h
 ·cases e
 ·cases e1
  exact Blk.fz (T := e) (cs := cur) e3 i
def setP (W : World) (g o : Nat) (p : Pr) (v : Value) : World := ((((W.setCell ⟨g, o, none⟩ (.int .i64 p.lies)).setCell ⟨g, o + 1, none⟩ (.int .i64 p.wait)).setCell ⟨g, o + 2, none⟩ (.int .i64 p.last)).setCell ⟨g, o + 3, none⟩ (.string p.asked)).setCell ⟨g, o + 4, none⟩ v
/-- Five cells that may be stored into. -/
structure Set5 (W : World) (g o : Nat) (d0 d1 d2 d3 : Value) (z0 z1 z2 z3 z4 : Value) : Prop where
 e0 : W.cell? ⟨g, o, none⟩ = some z0
 f0 : W.frozen? ⟨g, o, none⟩ = false
 e1 : (W.setCell ⟨g, o, none⟩ d0).cell? ⟨g, o + 1, none⟩ = some z1
 f1 : (W.setCell ⟨g, o, none⟩ d0).frozen? ⟨g, o + 1, none⟩ = false
 e2 : ((W.setCell ⟨g, o, none⟩ d0).setCell ⟨g, o + 1, none⟩ d1).cell? ⟨g, o + 2, none⟩ = some z2
 f2 : ((W.setCell ⟨g, o, none⟩ d0).setCell ⟨g, o + 1, none⟩ d1).frozen? ⟨g, o + 2, none⟩ = false
 e3 : (((W.setCell ⟨g, o, none⟩ d0).setCell ⟨g, o + 1, none⟩ d1).setCell ⟨g, o + 2, none⟩ d2).cell? ⟨g, o + 3, none⟩ = some z3
 f3 : (((W.setCell ⟨g, o, none⟩ d0).setCell ⟨g, o + 1, none⟩ d1).setCell ⟨g, o + 2, none⟩ d2).frozen? ⟨g, o + 3, none⟩ = false
 e4 : ((((W.setCell ⟨g, o, none⟩ d0).setCell ⟨g, o + 1, none⟩ d1).setCell ⟨g, o + 2, none⟩ d2).setCell ⟨g, o + 3, none⟩ d3).cell? ⟨g, o + 4, none⟩ = some z4
 f4 : ((((W.setCell ⟨g, o, none⟩ d0).setCell ⟨g, o + 1, none⟩ d1).setCell ⟨g, o + 2, none⟩ d2).setCell ⟨g, o + 3, none⟩ d3).frozen? ⟨g, o + 4, none⟩ = false
theorem row_store5 {W : World} {B g cap : Nat} {qs : PV} (h : W.ownsRow B 57 5 (.slice (some ⟨g, 0, none⟩) qs.length cap) qs.length (cellsQ qs)) (i : Nat) (hi : i < qs.length) (d0 d1 d2 d3 : Value) : Set5 W g (i * 5) d0 d1 d2 d3 (.int .i64 (qp qs i).lies) (.int .i64 (qp qs i).wait) (.int .i64 (qp qs i).last) (.string (qp qs i).asked) (qv qs i) := by
 have q := cellsQ_at qs i hi
 have r1 := row_setCell h (i * 5) d0
 have r2 := row_setCell r1 (i * 5 + 1) d1
 have r3 := row_setCell r2 (i * 5 + 2) d2
 have r4 := row_setCell r3 (i * 5 + 3) d3
 refine ⟨(h.cellAt _ (by omega)).trans q.c0, row_fz h _, (r1.cellAt _ (by omega)).trans ?_, row_fz r1 _, (r2.cellAt _ (by omega)).trans ?_, row_fz r2 _, (r3.cellAt _ (by omega)).trans ?_, row_fz r3 _, (r4.cellAt _ (by omega)).trans ?_, row_fz r4 _⟩
 ·rw [List.getElem?_set_ne (by omega)]; exact q.c1
 ·rw [List.getElem?_set_ne (by omega), List.getElem?_set_ne (by omega)]; exact q.c2
 ·rw [List.getElem?_set_ne (by omega), List.getElem?_set_ne (by omega), List.getElem?_set_ne (by omega)]; exact q.c3
 ·rw [List.getElem?_set_ne (by omega), List.getElem?_set_ne (by omega), List.getElem?_set_ne (by omega), List.getElem?_set_ne (by omega)]; exact q.c4
theorem grown_setP (W : World) (g o : Nat) (p : Pr) (v : Value) : W.grownBy (setP W g o p v) (some g) :=
 grown_same (grown_same (grown_same (grown_same (grownBy_setCellAt W g o (.int .i64 p.lies)) (grownBy_setCellAt _ g (o + 1) (.int .i64 p.wait))) (grownBy_setCellAt _ g (o + 2) (.int .i64 p.last))) (grownBy_setCellAt _ g (o + 3) (.string p.asked))) (grownBy_setCellAt _ g (o + 4) v)
theorem peers_setP {W : World} {B g cap : Nat} {qs : PV} {i : Nat} {p : Pr} {v : Value} (h : PeersOwn W B (.slice (some ⟨g, 0, none⟩) qs.length cap) qs) (hi : i < qs.length) (hv : W.ownsRow B 9 1 v p.nots.length (p.nots.map Value.string)) (hap : ∀ j, j < qs.length → j ≠ i → ∀ b, (qv qs j).ownBlock = some b → v.ownBlock ≠ some b) : PeersOwn (setP W g (i * 5) p v) B (.slice (some ⟨g, 0, none⟩) (qs.set i (p, v)).length cap) (qs.set i (p, v)) := by
 have hl : (qs.set i (p, v)).length = qs.length := List.length_set
 have G := grown_setP W g (i * 5) p v
 have hvg : v.ownBlock ≠ some g := fun e => rows_off hv h.row (by decide) e rfl
 refine ⟨?_, fun j hj => ?_, fun j hj b e => ?_, fun j k hj hk hjk b => ?_⟩
 ·rw [hl, ← cellsQ_set5 qs i p v hi]
  exact row_setCell (row_setCell (row_setCell (row_setCell (row_setCell h.row _ _) _ _) _ _) _ _) _ _
 ·rw [hl] at hj
  rw [qp_set qs i j _ hi, qv_setv qs i j _ hi]
  by_cases e : j = i
  ·rw [if_pos e, if_pos e]; exact row_far hv G hvg
  ·rw [if_neg e, if_neg e]; exact row_far (h.nots j hj) G (fun e2 => h.apart j hj g e2 rfl)
 ·rw [hl] at hj
  rw [qv_setv qs i j _ hi] at e
  intro e2
  obtain rfl : g = b := Option.some.inj e2
  by_cases ej : j = i
  ·rw [if_pos ej] at e; exact hvg e
  ·rw [if_neg ej] at e; exact h.apart j hj g e rfl
 ·rw [hl] at hj hk
  rw [qv_setv qs i j _ hi, qv_setv qs i k _ hi]
  by_cases ej : j = i
  ·rw [if_pos ej, if_neg (fun ek => hjk (ej.trans ek.symm))]
   exact fun e e2 => hap k hk (fun ek => hjk (ej.trans ek.symm)) b e2 e
  ·rw [if_neg ej]
   by_cases ek : k = i
   ·rw [if_pos ek]; exact fun e e2 => hap j hj ej b e e2
   ·rw [if_neg ek]; exact h.apart2 j k hj hk hjk b
theorem fetch_setP {W : World} {B g cap : Nat} {vi vp : Value} {its : Itms} {ts : List ByteArray} {qs : PV} {i : Nat} {p : Pr} {v : Value} (h : FetchOwn W B vi vp (.slice (some ⟨g, 0, none⟩) qs.length cap) its ts qs) (hi : i < qs.length) (hv : W.ownsRow B 9 1 v p.nots.length (p.nots.map Value.string)) (hap : ∀ j, j < qs.length → j ≠ i → ∀ b, (qv qs j).ownBlock = some b → v.ownBlock ≠ some b) (hvp : ∀ b, vp.ownBlock = some b → v.ownBlock ≠ some b) : FetchOwn (setP W g (i * 5) p v) B vi vp (.slice (some ⟨g, 0, none⟩) (qs.set i (p, v)).length cap) its ts (qs.set i (p, v)) := by
 have G := grown_setP W g (i * 5) p v
 have hl : (qs.set i (p, v)).length = qs.length := List.length_set
 have hblk : ∀ b, PBlk (.slice (some ⟨g, 0, none⟩) (qs.set i (p, v)).length cap) (qs.set i (p, v)) b → PBlk (.slice (some ⟨g, 0, none⟩) qs.length cap) qs b ∨ v.ownBlock = some b := fun b hb => by
  rcases hb with hb | ⟨j, hj, hb⟩
  ·exact .inl (.inl hb)
  ·rw [hl] at hj
   rw [qv_setv qs i j _ hi] at hb
   by_cases e : j = i
   ·rw [if_pos e] at hb; exact .inr hb
   ·rw [if_neg e] at hb; exact .inl (.inr ⟨j, hj, hb⟩)
 refine ⟨⟨row_far h.store.items G (fun e => h.apartI g e (.inl rfl)), row_far h.store.pins G (fun e => h.apartP g e (.inl rfl)), h.store.apart⟩, peers_setP h.peers hi hv hap, fun b e hb => ?_, fun b e hb => ?_⟩
 ·rcases hblk b hb with hb | hb
  ·exact h.apartI b e hb
  ·exact rows_off h.store.items hv (by decide) e hb
 ·rcases hblk b hb with hb | hb
  ·exact h.apartP b e hb
  ·exact hvp b e hb
theorem PutR.keep {nm : ByteArray} {wd room : Int} {its : Itms} {ts : List ByteArray} {text sum : ByteArray} {now wd' room' : Int} {its' : Itms} {ts' : List ByteArray} {code : Int} (hv : ValidSt wd room its ts) (hb : ¬ BadA nm wd sum text) (h : PutR wd room its ts text now wd' room' its' ts' code) :
  (code ≠ 0 ∧ KeepR nm wd room its ts now sum text code its) ∨ (code = 0 ∧ KeepR nm wd room its ts now sum text 0 its' ∧ wd' = wd ∧ room' = room ∧ ts' = ts) := by
 rcases h with ⟨hn, _, _, _, _, rfl⟩ | ⟨ho, c, a, hp, rfl, ⟨hc, _, _, _, _⟩ | ⟨rfl, rfl, rfl, rfl, rfl⟩⟩
 ·exact .inl ⟨by decide, .inr (.inl ⟨hb, fun h => hn ⟨hv, h⟩, rfl, rfl⟩)⟩
 ·exact .inl ⟨hc, .inr (.inr ⟨hb, ho.2, a, hp, .inl ⟨hc, rfl⟩⟩)⟩
 ·exact .inr ⟨rfl, .inr (.inr ⟨hb, ho.2, _, hp, .inr ⟨rfl, rfl⟩⟩), rfl, rfl, rfl⟩
end Go.Proofs.YtbihndholamdfaaGreatDoor
