import Derived.Test.YtkjdabnglcabiaaGreatDoorSaveMath
import Derived.Test.YtkjdabnglcabiaaGreatDoorHeapPush2
import Derived.Test.YtkjdabnglcabiaaGreatDoorPiecesBase
/- (*shelf).pin, and what it leaves as it was. -/
namespace Go.Proofs.YtkjdabnglcabiaaGreatDoor
open Go.RowKit
/-- What pin leaves. -/
def PinResB (w : World) (sb mb m : Nat) (D : DataW Unit) (wd room tot : Int) (vc : Value) (ts : List ByteArray) (name : ByteArray) (e : Ending) (w' : World) : Prop :=
 (e = .returned (.int .i64 1) ∧ ¬ ((name.size : Int) = wd) ∧ Below w.heap.size w w') ∨
 (e = .returned (.int .i64 2) ∧ (name.size : Int) = wd ∧ 10 < (addT name ts).length ∧ Below w.heap.size w w') ∨
 (e = .returned (.int .i64 0) ∧ (name.size : Int) = wd ∧ (addT name ts).length ≤ 10 ∧ ∃ vc', Blk w' sb 74 #[.int .i64 wd, .int .i64 room, .int .i64 tot, .map (some mb), vc'] ∧ Reads w' vc' (addT name ts) ∧ w'.ownsMap Tryz.prog 9 itemElem mb m D ∧ But (fun b => b = sb ∨ vc.ownBlock = some b) w w')
set_option maxRecDepth 100000 in
set_option maxHeartbeats 1000000 in
theorem pinB_any (sb mb m B : Nat) (D : DataW Unit) (wd room tot : Int) (vc : Value) (ts : List ByteArray) (name : ByteArray) (w : World) (hbox : Blk w sb 74 #[.int .i64 wd, .int .i64 room, .int .i64 tot, .map (some mb), vc]) (hmap : w.ownsMap Tryz.prog 9 itemElem mb m D) (hrow : w.ownsRow B 9 1 vc ts.length (ts.map Value.string)) (hne : sb ≠ mb) (hns : vc.ownBlock ≠ some sb) (hnm : vc.ownBlock ≠ some mb) (hA : Asc ts) (hl : ts.length ≤ 10) :
  Calls Tryz.prog 43 #[.pointer (some ⟨sb, 0, none⟩), .string name] w fun e w' => PinResB w sb mb m D wd room tot vc ts name e w' := by
 obtain ⟨ac, cc, rfl, _⟩ := row_form hrow
 have c0 : w.cell? ⟨sb, 0, none⟩ = some (.int .i64 wd) := hbox.cell 0
 have c4 : w.cell? ⟨sb, 4, none⟩ = some (.slice ac ts.length cc) := hbox.cell 4
 by_cases hsz : (name.size : Int) = wd
 case neg =>
  go_enter Tryz.func43, Tryz.ntmps43
  go_wp2
  go_ret
  exact .inl ⟨rfl, hsz, Below.refl _ _⟩
 have hkl := cutN_le name ts
 have HBX := hid hbox
 have HMP := hid hmap
 have HRW := hid hrow
 have HA := hid hA
 have d4 : ∀ n, (w.drewN n).cell? ⟨sb, 4, none⟩ = some (.slice ac ts.length cc) := fun n => c4
 have HSE : Hid (Calls Tryz.prog 71 #[.slice ac ts.length cc, .string name] w fun e w' => ∃ q : Bool, e = .returned (.tuple #[.int .i64 (cutN name ts), .bool q]) ∧ (q = true ↔ cutN name ts < ts.length ∧ tv ts (cutN name ts) = name) ∧ ∃ n, w' = w.drewN n) := by
  rcases hrow with ⟨_, ⟨e0, h0⟩ | ⟨g, cap, cur, e0, hg1, hg2, hnc, hmc, _⟩⟩
  ·have e1 : ts = [] := List.eq_nil_of_length_eq_zero h0
   subst e1
   simp at e0
   obtain ⟨rfl, rfl⟩ := e0
   refine (search_none _ _ _ _).mono ?_
   rintro e w' ⟨rfl, rfl⟩
   exact ⟨false, by simp [cutN], by simp, 0, rfl⟩
  ·cases e0
   refine (search_any g 0 cc ts name w hA (by omega) (fun j hj => by rw [Nat.zero_add, HRW.out.cellAt j (by omega)]; simp [tv, hj])).mono ?_
   rintro e w1 ⟨⟨q, rfl, hq⟩, n, rfl⟩
   exact ⟨q, rfl, hq, n, rfl⟩
 by_cases hin : cutN name ts < ts.length ∧ tv ts (cutN name ts) = name
 ·have HAT : Hid (addT name ts = ts) := by show addT name ts = ts; rw [addT, if_pos hin]
  generalize cutN name ts = k at *
  clear hbox hmap hA hrow
  go_enter Tryz.func43, Tryz.ntmps43
  go_wp2_with fail
  refine HSE.out.mono ?_
  rintro e w1 ⟨q, rfl, hq, n, rfl⟩
  have hqt : q = true := hq.2 hin
  subst hqt
  clear hq hin
  go_wp2
  go_ret
  have bl : ∀ B', Below B' w (w.drewN n) := fun B' => below_drewN (Below.refl B' w) n
  refine .inr (.inr ⟨rfl, hsz, by rw [HAT.out]; exact hl, _, HBX.out.below (bl _), ?_, World.ownsMap.kept (w' := w.drewN n) HMP.out (grown_of_below (bl _)) (by simp), But.of_below (bl _)⟩)
  rw [HAT.out]
  exact (Reads.of_row HRW.out).below (bl _)
 have HAT := hid (addT_len name ts hin)
 by_cases h10 : ts.length = 10
 ·generalize cutN name ts = k at *
  have HL : Hid (10 < (addT name ts).length) := by show 10 < (addT name ts).length; rw [HAT.out.2]; omega
  have h10b : ((ts.length : Int) == 10) = true := by simp [h10]
  have HIN2 := hid hin
  clear hbox hmap hA hrow h10 hkl hl hin HAT HRW
  generalize ts.length = tl at *
  go_enter Tryz.func43, Tryz.ntmps43
  go_wp2_with fail
  refine HSE.out.mono ?_
  rintro e w1 ⟨q, rfl, hq, n, rfl⟩
  have hqf : q = false := by cases q; rfl; exact absurd (hq.1 rfl) HIN2.out
  subst hqf
  clear hq
  go_wp2
  go_ret
  exact .inr (.inl ⟨rfl, hsz, HL.out, below_drewN (Below.refl _ _) _⟩)
 have HIN := hid fun (W : World) vb a b c => insertRow_any (.slice ac ts.length cc) (cutN name ts) B vb ts name W a hkl (by omega) b c
 generalize cutN name ts = k at *
 clear hbox hmap hA hrow
 have h10' : ¬ ((ts.length : Int) = 10) := by omega
 go_enter Tryz.func43, Tryz.ntmps43
 go_wp2_with fail
 refine HSE.out.mono ?_
 rintro e w1 ⟨q, rfl, hq, n, rfl⟩
 have hqf : q = false := by cases q; rfl; exact absurd (hq.1 rfl) hin
 subst hqf
 clear hq
 have HRWn : Hid (∀ o, ((w.drewN n).alloc o).ownsRow B 9 1 (.slice ac ts.length cc) ts.length (ts.map Value.string)) := fun o => (Below.row (below_drewN (Below.refl _ w) n) HRW.out).alloc o
 have HNE : Hid ((Value.slice ac ts.length cc).ownBlock ≠ some w.heap.size) := fun e => by have := (HRW.out.lt _ e).2; omega
 have HNW := hid (Blk.new (w.drewN n) 9 #[.string name])
 have hdsz : (w.drewN n).heap.size = w.heap.size := rfl
 go_wp2_with fail
 refine (HIN.out _ _ (HRWn.out _) HNW.out HNE.out).mono ?_
 rintro e w2 ⟨v2, rfl, hrd, hob, hg⟩
 obtain ⟨a2, c2, rfl, _⟩ := hrd.form
 have hslt : sb < w.heap.size := HBX.out.lt
 have X2 := ((show Blk (w.drewN n) sb 74 _ from HBX.out).alloc (.cells #[.string name] 9)).kept hg (fun e => hns e.symm)
 have M2 := ((World.ownsMap.kept (w' := w.drewN n) HMP.out (grown_of_below (below_drewN (Below.refl _ w) n)) (by simp)).alloc (.cells #[.string name] 9)).kept hg (fun e => hnm e.symm)
 have q4 := X2.cell 4
 have f4 := X2.fz 4
 have hob2 : (Value.slice a2 (ts.take k ++ name :: ts.drop k).length c2).ownBlock ≠ some sb := fun e => by
  rcases hob _ e with h | h
  ·exact hns h
  ·have : w.heap.size + 1 ≤ sb := by simpa using h
   omega
 have gU := grownBy_setCellAt w2 sb 4 (.slice a2 (ts.take k ++ name :: ts.drop k).length c2)
 have X3 := hid (X2.set 4 (.slice a2 (ts.take k ++ name :: ts.drop k).length c2))
 have M3 := hid (M2.kept gU (fun e => hne (Option.some.inj e).symm))
 have hrd3 := hid (reads_far hrd gU hob2)
 have HBB : Hid (But (fun b => b = sb ∨ (Value.slice ac ts.length cc).ownBlock = some b) w (w2.setCell ⟨sb, 4, none⟩ (.slice a2 (ts.take k ++ name :: ts.drop k).length c2))) :=
  ((But.of_below (P := fun b => b = sb ∨ (Value.slice ac ts.length cc).ownBlock = some b) ((below_drewN (Below.refl w.heap.size w) n).alloc (Nat.le_refl _) (.cells #[.string name] 9))).trans (Q := fun b => b = sb ∨ (Value.slice ac ts.length cc).ownBlock = some b) ⟨hg.os, hg.tape, hg.output, hg.size, fun k hk hn => hg.block k hk (fun e => hn (.inr e.symm))⟩ (fun _ _ h => h)).trans (But.of_grown gU (.inl rfl)) (fun _ _ h => h)
 have HAT2 := hid HAT.out.1
 have HAT3 := hid HAT.out.2
 clear hg hrd X2 M2 gU hob hob2
 generalize ts.take k ++ name :: ts.drop k = ts9 at *
 go_wp2
 go_ret
 refine .inr (.inr ⟨rfl, hsz, by rw [HAT3.out]; omega, _, X3.out, by rw [HAT2.out]; exact hrd3.out, M3.out, HBB.out⟩)
end Go.Proofs.YtkjdabnglcabiaaGreatDoor
/- A range over a function whose body may leave by return. -/
namespace Go.Proofs.YtkjdabnglcabiaaGreatDoor
open Go.RowKit
attribute [local go_sem] Oper.semAt_some
/-- An iterator that turns cells of type T alone, hands on the list xs until a round leaves, and wants Kp of each round. -/
def SeqL {α : Type} (P : Program) (T : TypeId) (gf : Nat) (lb : Array Value) (encs : α → Array Value) (Kp : World → World → Prop) (xs : List α) (w0 : World) : Prop :=
 ∀ (l : Nat) (J Jx : List α → World → Prop) (W : World), Below w0.heap.size w0 W → AbT T W.heap.size J →
  (∀ pre x W1, J pre W1 → (pre ++ [x]) <+: xs → YieldAt Fence.wide 0 P l (encs x) W1 fun e W' => (e = .returned (.bool true) ∧ J (pre ++ [x]) W' ∧ Kp W1 W') ∨ (e = .returned (.bool false) ∧ Jx (pre ++ [x]) W')) →
  J [] W → CallsIn Fence.wide 0 P gf (#[.func (.yield l) #[] #[]] ++ lb) W fun e W' => (∃ v, e = .returned v) ∧ (J xs W' ∨ ∃ pre, pre <+: xs ∧ Jx pre W')
theorem wp_rangeL {α : Type} {P : Program} {T : TypeId} {g : Operand} {ps : Array Tmp} {assign body : Code} {Q : Exit → Act → World → Prop} {a : Act} {w : World}
  {gf : Nat} {lb : Array Value} (hg : a.eval g = .func (.func gf) #[] lb) (eg : ∀ args w, (callFunc gf args).run P w = .ok (.enter gf args) w)
  {encs : α → Array Value} {Kp : World → World → Prop} {xs : List α} {w0 : World} (hseq : SeqL P T gf lb encs Kp xs w0)
  (hKt : ∀ {A B C : World}, Kp A B → Kp B C → Kp A C) (hKb : ∀ (W : World) (l : Nat) (o o' : Obj), w.heap.size ≤ l → W.heap[l]? = some o → o.isCells = false → Kp W (W.putObj l o'))
  (hb0 : Below w0.heap.size w0 w) (hps : ∀ x, (encs x).size = ps.size)
  (I Ix : List α → World → Prop) (hIx : OwnFrom w.heap.size Ix) (hI : OwnFrom w.heap.size I) (hIT : AbT T w.heap.size I) (h0 : I [] w) (a₁ : α → Act)
  (hassign : ∀ (l : Nat) (x : α) (W : World) (K : Act → World → Prop), K (a₁ x) W →
   assign.wpIn (Fence.wide.inRound l) 0 P (Exit.then K (fun _ _ _ => False)) { tmps := (ps.zip (encs x)).foldl (fun t (p, v) => t.setIfInBounds p v) a.tmps, defers := [] } W)
  (hbody : ∀ (l : Nat) (pre : List α) (x : α) (W : World), I pre W → (pre ++ [x]) <+: xs →
   body.wpIn (Fence.wide.inRound l) 0 P (fun ex _ W' => (ex = .normal ∧ KeepsFrom w.heap.size W W' ∧ Kp W W' ∧ I (pre ++ [x]) W') ∨ (ex = .ret ∧ KeepsFrom w.heap.size W W' ∧ Ix (pre ++ [x]) W')) (a₁ x) W)
  (hdone : ∀ (D : Nat) (W : World), w.heap.size ≤ D → I xs W → W.heap[D]? = some (.deferred (some [])) → Q .normal { a with defers := { target := .collected D, args := #[] } :: a.defers } W)
  (hstop : ∀ (D : Nat) (pre : List α) (W : World), w.heap.size ≤ D → pre <+: xs → Ix pre W → W.heap[D]? = some (.deferred (some [])) → Code.ret.wpIn Fence.wide 0 P Q { a with defers := { target := .collected D, args := #[] } :: a.defers } W) :
  (Code.rangeFunc g ps assign body).wpIn Fence.wide 0 P Q a w := by
 refine wpIn_rangeFunc fun fn _ => ?_
 let R : LoopState → Option Code → Loop := fun st pe => { state := st, pending := pe, fn := fn, tmps := a.tmps, params := ps, assign := assign, body := body, defers := w.heap.size }
 have hR : ∀ st pe, R st pe = { state := st, pending := pe, fn := fn, tmps := a.tmps, params := ps, assign := assign, body := body, defers := w.heap.size } := fun _ _ => rfl
 clear_value R
 obtain ⟨W1, hW1⟩ : ∃ W1, (w.alloc (.deferred (some []))).alloc (.loop (R .ready none)) = W1 := ⟨_, rfl⟩
 have hsz : W1.heap.size = w.heap.size + 2 := by rw [← hW1]; simp
 have hl1 : W1.heap[w.heap.size + 1]? = some (.loop (R .ready none)) := by
  rw [← hW1]; have := World.alloc_heap_new (w.alloc (.deferred (some []))) (.loop (R .ready none)); rwa [World.size_alloc] at this
 have hd1 : W1.heap[w.heap.size]? = some (.deferred (some [])) := by
  rw [← hW1]; exact (Below.heap_alloc _ _ _ (by simp)).trans (World.alloc_heap_new w _)
 have hi1 : I [] W1 := by rw [← hW1]; exact hI.alloc _ (hI.alloc _ h0)
 have hbW : Below w0.heap.size w0 W1 := by
  rw [← hW1]; exact hb0.trans ((((Below.refl _ w).alloc (Nat.le_refl _) _).alloc (by simp) _).mono hb0.size)
 refine ⟨w.heap.size + 1, [{ target := .collected w.heap.size, args := #[] }], W1, { target := .fn (.func gf) lb, args := #[.func (.yield (w.heap.size + 1)) #[] #[]] }, W1, gf,
  #[.func (.yield (w.heap.size + 1)) #[] #[]] ++ lb, W1, ?_, ?_, fun _ _ => trivial, ?_, (fun h => by cases h), ?_⟩
 ·rw [← hW1, hR]; exact run_enterLoop_outer _ _ _ _ _
 ·simp only [resolve, hg]; simp [go_sem]
 ·simp [invoke, go_sem, eg]
 refine (hseq (w.heap.size + 1) (fun pre W => I pre W ∧ W.heap[w.heap.size + 1]? = some (.loop (R .ready none)) ∧ W.heap[w.heap.size]? = some (.deferred (some []))) (fun pre W => Ix pre W ∧ W.heap[w.heap.size + 1]? = some (.loop (R .done (some .ret))) ∧ W.heap[w.heap.size]? = some (.deferred (some []))) W1 hbW ?_ ?_ ⟨hi1, hl1, hd1⟩).mono ?_
 ·-- the ring's turns
  intro s A A' row hs hgr hr
  have other : ∀ (k : Nat) (o : Obj), A.heap[k]? = some o → o.isCells = false → A'.heap[k]? = some o := fun k o hk ho =>
   (hgr.block k (Array.getElem?_eq_some_iff.1 hk).1 (fun e => by obtain ⟨_, c, hc⟩ := hr k e.symm; rw [hk] at hc; cases hc; cases ho)).trans hk
  exact ⟨hIT s A A' row hs.1 hgr (fun r e => ⟨by have := (hr r e).1; omega, (hr r e).2⟩), other _ _ hs.2.1 rfl, other _ _ hs.2.2 rfl⟩
 ·-- one round
  rintro pre x W ⟨hi, hl, hd⟩ hpx
  have hlt : w.heap.size + 1 < W.heap.size := (Array.getElem?_eq_some_iff.1 hl).1
  have hy := run_yield (P := P) (args := encs x) hl (by rw [hR]; exact hps x)
  rw [hR] at hy
  refine ⟨fn, _, assign, body, hy, roundIn_of_wpIn trivial (hassign _ x W _ ⟨_, run_beginRound hl (by rw [hR]), ?_⟩)⟩
  have hl2 : (W.putObj (w.heap.size + 1) (.loop { R .ready none with state := .busy })).heap[w.heap.size + 1]? = some (.loop { R .ready none with state := .busy }) := World.putObj_heap_same hlt
  have hd2 : (W.putObj (w.heap.size + 1) (.loop { R .ready none with state := .busy })).heap[w.heap.size]? = some (.deferred (some [])) := (World.putObj_heap_other (by omega)).trans hd
  refine wpIn_mono (hbody _ pre x _ (hI.putObj _ hi (by omega) hl rfl) hpx) ?_
  rintro e a3 W3 (⟨rfl, hk3, hp3, hi3⟩ | ⟨rfl, hk3, hi3⟩)
  ·have hl3 := hk3.same _ _ (by omega) hl2 rfl
   have hd3 := hk3.same _ _ (Nat.le_refl _) hd2 rfl
   have hr := run_endRound (P := P) none hl3
   rw [hR] at hr
   refine ⟨_, _, hr, .inl ⟨rfl, ⟨hI.putObj _ hi3 (by omega) hl3 rfl, ?_, (World.putObj_heap_other (by omega)).trans hd3⟩, hKt (hKt (hKb _ _ _ _ (by omega) hl rfl) hp3) (hKb _ _ _ _ (by omega) hl3 rfl)⟩⟩
   rw [hR]; exact World.putObj_heap_same (Array.getElem?_eq_some_iff.1 hl3).1
  ·have hl3 := hk3.same _ _ (by omega) hl2 rfl
   have hd3 := hk3.same _ _ (Nat.le_refl _) hd2 rfl
   have hr := run_endRound (P := P) (some .ret) hl3
   rw [hR] at hr
   refine ⟨_, _, hr, .inr ⟨rfl, hIx.putObj _ hi3 (by omega) hl3 rfl, ?_, (World.putObj_heap_other (by omega)).trans hd3⟩⟩
   rw [hR]; exact World.putObj_heap_same (Array.getElem?_eq_some_iff.1 hl3).1
 ·-- behind the iterator
  rintro e W2 ⟨⟨v, rfl⟩, ⟨hi, hl, hd⟩ | ⟨pre, hpre, hi, hl, hd⟩⟩
  ·have hr := run_endLoop (P := P) hl (by rw [hR]; simp)
   rw [hR] at hr
   exact ⟨none, _, hr, hdone _ _ (Nat.le_refl _) (hI.putObj _ hi (by omega) hl rfl) ((World.putObj_heap_other (by omega)).trans hd)⟩
  ·have hr := run_endLoop (P := P) hl (by rw [hR]; simp)
   rw [hR] at hr
   exact ⟨some .ret, _, hr, hstop _ _ _ (Nat.le_refl _) hpre (hIx.putObj _ hi (by omega) hl rfl) ((World.putObj_heap_other (by omega)).trans hd)⟩
set_option maxRecDepth 100000 in
set_option maxHeartbeats 1000000 in
theorem iter_seqL (s : ByteArray) (Bn : Nat) (w0 : World) (hB : Bn < w0.heap.size) (hs : w0.heap[Bn]? = some (.cells #[.string s] 9 (0, 0))) :
  SeqL Tryz.prog 122 79 #[.pointer (some ⟨Bn, 0, none⟩)] (fun p : ByteArray => #[Value.string p]) (KeepP Bn) (piecesOf s) w0 := by
 intro l J Jx W hW hJ hY h0
 have hBW : W.heap[Bn]? = some (.cells #[.string s] 9 (0, 0)) := (hW.block Bn hB).trans hs
 have hBlt : Bn < W.heap.size := (Array.getElem?_eq_some_iff.1 hBW).1
 have hcell : W.cell? ⟨Bn, 0, none⟩ = some (.string s) := by rw [cell_of_heap hBW]; rfl
 refine callsIn_of_wp Tryz.func79 rfl trivial ?_ rfl
 simp only [Tryz.ntmps79, List.size_toArray, List.length_cons, List.length_nil, Nat.reduceAdd, Nat.reduceSub, Array.replicate_succ, Array.replicate_zero, List.push_toArray, List.append_toArray, List.nil_append, List.cons_append]
 by_cases h3 : 3000 < s.size
 ·have e : piecesOf s = [] := by simp [piecesOf, h3]
  rw [e]; clear e
  gi_wp2
  refine bodyPost_ret (results_none rfl _ _ _) rfl ?_
  exact ⟨⟨_, rfl⟩, .inl h0⟩
 ·have e : piecesOf s = (cutTo s s.size).2 := by simp [piecesOf, h3]
  rw [e] at hY ⊢; clear e
  gi_wp2
  gi_loopw [4, 5, 6] (fun bg i _ wr => ∃ k : Nat, k ≤ s.size ∧ i = .int .i64 k ∧ bg = .int .i64 ((cutTo s k).1 : Nat) ∧ J (cutTo s k).2 wr ∧ wr.heap[W.heap.size]? = some (.cells (ringA s k) 122 (0, 0)) ∧ wr.heap[Bn]? = some (.cells #[.string s] 9 (0, 0))) (fun _ i _ _ => s.size - (intOf i).toNat)
  case atStart =>
   refine ⟨0, Nat.zero_le _, rfl, rfl, ?_, World.alloc_heap_new W _, (Below.heap_alloc W _ Bn hBlt).trans hBW⟩
   exact hJ [] W _ none h0 (World.grownBy_alloc W _ none) (fun r e => by cases e)
  case round =>
   obtain ⟨k, hk, rfl, rfl, hj, hr, hb⟩ := hrel
   have hc : wr.cell? ⟨Bn, 0, none⟩ = some (.string s) := by rw [cell_of_heap hb]; rfl
   clear hcell
   by_cases hlt : k < s.size
   ·have hcl := (cutTo_le s k).1
    have hadd := add_ring s k W.heap.size wr hr
    rw [← byteAt_get s k hlt] at hadd
    have HA := hid hadd
    clear hadd
    have hcut := fun W1 h => isCut_ring s (cutTo s k).1 (k + 1) W.heap.size W1 (by omega) (by omega) h
    cases hend : (endsB (s.extract (cutTo s k).1 (k + 1)) || decide (k + 1 = s.size)) with
    | false =>
     have HN := hid (cutTo_on s k hend)
     simp only [Bool.or_eq_false_iff, decide_eq_false_iff_not] at hend
     rw [hend.1] at hcut
     have HC := hid hcut
     have hlt2 : k + 1 < s.size := by omega
     clear hcut hend hY
     generalize cutTo s k = c at *
     obtain ⟨f, ps⟩ := c
     dsimp only at *
     gi_wp2_with (first | (refine ⟨trivial, rfl, ?_⟩; gi_at_call 80; refine (callsIn_wide.2 HA.out).mono ?_; rintro e w1 ⟨rfl, hg1, hr1⟩; have hb1 := box_kept hb hg1 hBlt; have hc1 := cell_box hb1) | (refine ⟨trivial, rfl, ?_⟩; gi_at_call 81; rw [show ((k : Int) + 1 - (f : Int)) = ((k + 1 - f : Nat) : Int) by omega]; refine (callsIn_wide.2 (HC.out _ hr1)).mono ?_; rintro e w2 ⟨rfl, m, rfl⟩))
     go_roundw
     case rel =>
      refine ⟨k + 1, by omega, by go_num, by rw [HN.out], ?_, hr1, hb1⟩
      rw [HN.out]
      exact ring_drewN hJ hj hg1 hr m
     case measure => simp [intOf]; omega
    | true =>
     have HN := hid (cutTo_cut s k hend)
     have hpre : (cutTo s k).2 ++ [s.extract (cutTo s k).1 (k + 1)] <+: (cutTo s s.size).2 := by
      have := cutTo_grows s (k + 1) s.size (by omega)
      rw [HN.out] at this; exact this
     have HY := hid fun W1 h => hY (cutTo s k).2 (s.extract (cutTo s k).1 (k + 1)) W1 h hpre
     have HPRE := hid hpre
     clear hY hpre
     by_cases hlt2 : k + 1 < s.size
     ·have he1 : endsB (s.extract (cutTo s k).1 (k + 1)) = true := by
       have : decide (k + 1 = s.size) = false := by simp; omega
       rwa [this, Bool.or_false] at hend
      rw [he1] at hcut
      have HC := hid hcut
      clear hcut hend he1
      generalize cutTo s k = c at *
      obtain ⟨f, ps⟩ := c
      dsimp only at *
      gi_wp2_with (first | (refine ⟨trivial, rfl, ?_⟩; gi_at_call 80; refine (callsIn_wide.2 HA.out).mono ?_; rintro e w1 ⟨rfl, hg1, hr1⟩; have hb1 := box_kept hb hg1 hBlt; have hc1 := cell_box hb1) | (refine ⟨trivial, rfl, ?_⟩; gi_at_call 81; rw [show ((k : Int) + 1 - (f : Int)) = ((k + 1 - f : Nat) : Int) by omega]; refine (callsIn_wide.2 (HC.out _ hr1)).mono ?_; rintro e w2 ⟨rfl, m, rfl⟩; obtain ⟨fn, tmps, assign, body, hy, hR⟩ := HY.out (w1.drewN m) (ring_drewN hJ hj hg1 hr m)))
      refine ⟨rfl, hR.mono ?_⟩
      rintro e w3 (⟨rfl, hj3, hk3⟩ | ⟨rfl, hx3⟩)
      rotate_left
      ·gi_wp2
       refine bodyPost_ret (results_none rfl _ _ _) rfl ?_
       exact ⟨⟨_, rfl⟩, .inr ⟨_, HPRE.out, hx3⟩⟩
      gi_wp2
      go_roundw
      case rel =>
       refine ⟨k + 1, by omega, by go_num, by rw [HN.out]; go_num, ?_, hk3.1 _ _ hr1, hk3.2.trans hb1⟩
       rw [HN.out]; exact hj3
      case measure => simp [intOf]; omega
     ·have hk1 : decide ((k : Int) + 1 < (s.size : Int)) = false := by simp; omega
      clear hcut hend
      generalize cutTo s k = c at *
      obtain ⟨f, ps⟩ := c
      dsimp only at *
      gi_wp2_with (refine ⟨trivial, rfl, ?_⟩; gi_at_call 80; refine (callsIn_wide.2 HA.out).mono ?_; rintro e w1 ⟨rfl, hg1, hr1⟩; have hb1 := box_kept hb hg1 hBlt; have hc1 := cell_box hb1; obtain ⟨fn, tmps, assign, body, hy, hR⟩ := HY.out w1 (ring_drewN hJ hj hg1 hr 0))
      refine ⟨trivial, ?_⟩
      gi_wp2
      refine ⟨rfl, hR.mono ?_⟩
      rintro e w3 (⟨rfl, hj3, hk3⟩ | ⟨rfl, hx3⟩)
      rotate_left
      ·gi_wp2
       refine bodyPost_ret (results_none rfl _ _ _) rfl ?_
       exact ⟨⟨_, rfl⟩, .inr ⟨_, HPRE.out, hx3⟩⟩
      gi_wp2
      go_roundw
      case rel =>
       refine ⟨k + 1, by omega, by go_num, by rw [HN.out]; go_num, ?_, hk3.1 _ _ hr1, hk3.2.trans hb1⟩
       rw [HN.out]; exact hj3
      case measure => simp [intOf]; omega
   ·obtain rfl : k = s.size := by omega
    gi_wp2
    go_end0
    exact ⟨⟨_, rfl⟩, .inl hj⟩
end Go.Proofs.YtkjdabnglcabiaaGreatDoor
