import Derived.Test.YtkghbegdjeehaaaGreatDoorTickTop
import Derived.Test.YtkghbegdjeehaaaGreatDoorNextSpec
import Derived.Test.YtkghbegdjeehaaaGreatDoorChoiceSpec
import Derived.Test.YtkghbegdjeehaaaGreatDoorLacksSpec
/- What spec.FetchTick turns: the row of peers, who was looked at. -/
namespace Go.Proofs.YtkghbegdjeehaaaGreatDoor
open Go.RowKit
theorem cellsQ_cons (q : Pr × Value) (s : PV) : cellsQ (q :: s) = .int .i64 q.1.lies :: .int .i64 q.1.wait :: .int .i64 q.1.last :: .string q.1.asked :: q.2 :: cellsQ s := rfl
theorem cellsQ_putW : ∀ (qs : PV) (i : Nat) (x : Int), i < qs.length → (cellsQ qs).set (i * 5 + 1) (.int .i64 x) = cellsQ (qs.set i (⟨(qp qs i).lies, x, (qp qs i).last, (qp qs i).asked, (qp qs i).nots⟩, qv qs i))
 | [], _, _, h => absurd h (by simp)
 | (p, u) :: r, 0, x, _ => by simp [cellsQ, qp, qv]
 | (p, u) :: r, i + 1, x, h => by
  have ih := cellsQ_putW r i x (by simpa using h)
  have e : (i + 1) * 5 + 1 = (i * 5 + 1) + 1 + 1 + 1 + 1 + 1 := by omega
  have hq : qp ((p, u) :: r) (i + 1) = qp r i := by simp [qp]
  have hv : qv ((p, u) :: r) (i + 1) = qv r i := by simp [qv]
  rw [e, cellsQ_cons, hq, hv]
  simp only [List.set_cons_succ]
  rw [ih, cellsQ_cons]
theorem cellsQ_putL : ∀ (qs : PV) (i : Nat) (x : Int), i < qs.length → (cellsQ qs).set (i * 5 + 2) (.int .i64 x) = cellsQ (qs.set i (⟨(qp qs i).lies, (qp qs i).wait, x, (qp qs i).asked, (qp qs i).nots⟩, qv qs i))
 | [], _, _, h => absurd h (by simp)
 | (p, u) :: r, 0, x, _ => by simp [cellsQ, qp, qv]
 | (p, u) :: r, i + 1, x, h => by
  have ih := cellsQ_putL r i x (by simpa using h)
  have e : (i + 1) * 5 + 2 = (i * 5 + 2) + 1 + 1 + 1 + 1 + 1 := by omega
  have hq : qp ((p, u) :: r) (i + 1) = qp r i := by simp [qp]
  have hv : qv ((p, u) :: r) (i + 1) = qv r i := by simp [qv]
  rw [e, cellsQ_cons, hq, hv]
  simp only [List.set_cons_succ]
  rw [ih, cellsQ_cons]
theorem cellsQ_putA : ∀ (qs : PV) (i : Nat) (x : ByteArray), i < qs.length → (cellsQ qs).set (i * 5 + 3) (.string x) = cellsQ (qs.set i (⟨(qp qs i).lies, (qp qs i).wait, (qp qs i).last, x, (qp qs i).nots⟩, qv qs i))
 | [], _, _, h => absurd h (by simp)
 | (p, u) :: r, 0, x, _ => by simp [cellsQ, qp, qv]
 | (p, u) :: r, i + 1, x, h => by
  have ih := cellsQ_putA r i x (by simpa using h)
  have e : (i + 1) * 5 + 3 = (i * 5 + 3) + 1 + 1 + 1 + 1 + 1 := by omega
  have hq : qp ((p, u) :: r) (i + 1) = qp r i := by simp [qp]
  have hv : qv ((p, u) :: r) (i + 1) = qv r i := by simp [qv]
  rw [e, cellsQ_cons, hq, hv]
  simp only [List.set_cons_succ]
  rw [ih, cellsQ_cons]
/-- A fetch whose row of peers has turned in one peer. -/
theorem fetch_put {W W' : World} {B g cap : Nat} {vi vp : Value} {its : Itms} {ts : List ByteArray} {qs : PV} {i n : Nat} {p' : Pr} (h : FetchOwn W B vi vp (.slice (some ⟨g, 0, none⟩) n cap) its ts qs) (hi : i < qs.length) (hn : p'.nots = (qp qs i).nots) (G : W.grownBy W' (some g)) (hrow : W'.ownsRow B 50 5 (.slice (some ⟨g, 0, none⟩) n cap) qs.length (cellsQ (qs.set i (p', qv qs i)))) : FetchOwn W' B vi vp (.slice (some ⟨g, 0, none⟩) n cap) its ts (qs.set i (p', qv qs i)) := by
 have hl : (qs.set i (p', qv qs i)).length = qs.length := List.length_set
 have hq : ∀ j, qv (qs.set i (p', qv qs i)) j = qv qs j := fun j => by
  rw [qv_put qs i j _ hi]; split
  ·next e => rw [e]
  ·rfl
 have hP : ∀ j, (qp (qs.set i (p', qv qs i)) j).nots = (qp qs j).nots := fun j => by
  rw [qp_put qs i j _ hi]; split
  ·next e => rw [e]; exact hn
  ·rfl
 have hb : ∀ b, PBlk (.slice (some ⟨g, 0, none⟩) n cap) (qs.set i (p', qv qs i)) b → PBlk (.slice (some ⟨g, 0, none⟩) n cap) qs b := fun b h => by
  rcases h with h | ⟨j, hj, h⟩
  ·exact .inl h
  ·rw [hl] at hj; rw [hq] at h; exact .inr ⟨j, hj, h⟩
 refine ⟨⟨row_far h.store.items G (fun e => h.apartI g e (.inl rfl)), row_far h.store.pins G (fun e => h.apartP g e (.inl rfl)), h.store.apart⟩, ⟨by rw [hl]; exact hrow, fun j hj => ?_, fun j hj b e => ?_, fun j k hj hk hjk b => ?_⟩, fun b e h2 => h.apartI b e (hb b h2), fun b e h2 => h.apartP b e (hb b h2)⟩
 ·rw [hl] at hj
  rw [hq, hP]
  exact row_far (h.peers.nots j hj) G (fun e2 => h.peers.apart j hj g e2 rfl)
 ·rw [hl] at hj; rw [hq] at e; exact h.peers.apart j hj b e
 ·rw [hl] at hj hk; rw [hq, hq]; exact h.peers.apart2 j k hj hk hjk b
/-- A row of messages lies apart from a fetch. -/
theorem fetch_msg {W : World} {B B' : Nat} {vi vp vq vm : Value} {its : Itms} {ts : List ByteArray} {qs : PV} {ms : Mgs} (h : FetchOwn W B vi vp vq its ts qs) (k : MsgOwn W B' vm ms) : ∀ g, vm.ownBlock = some g → ¬ FBlk vi vp vq qs g := fun g e hb => by
 rcases hb with hb | hb | hb | ⟨j, hj, hb⟩
 ·exact rows_off k h.store.items (by decide) e hb
 ·exact rows_off k h.store.pins (by decide) e hb
 ·exact rows_off k h.peers.row (by decide) e hb
 ·exact rows_off k (h.peers.nots j hj) (by decide) e hb
/-- Those that were looked at, in their order. -/
structure TurnsTo (ps : Prs) (pre : List Nat) : Prop where
 asc : pre.Pairwise (Sooner ps)
 ok : ∀ i ∈ pre, i < ps.length ∧ May (pat ps i)
 ahead : ∀ i ∈ pre, ∀ j, j < ps.length → May (pat ps j) → j ∉ pre → Sooner ps i j
theorem TurnsTo.start (ps : Prs) : TurnsTo ps [] := ⟨List.Pairwise.nil, fun _ h => (by cases h), fun _ h => (by cases h)⟩
theorem TurnsTo.done {now : Int} {lacks : List ByteArray} {ps : Prs} {pre : List Nat} (h : TurnsTo ps pre) (hr : NextR (askN now lacks ps pre).1 pre (-1)) : Turns ps pre := by
 refine ⟨h.asc, fun i => ⟨h.ok i, fun ⟨h1, h2⟩ => ?_⟩⟩
 rcases hr with ⟨_, hr⟩ | ⟨k, e, _⟩
 ·by_cases hi : i ∈ pre
  ·exact hi
  ·exact absurd ⟨by rw [askN_len]; exact h1, hi, by rw [askN_other _ _ _ _ _ hi]; exact h2⟩ (hr i)
 ·omega
theorem TurnsTo.step {now : Int} {lacks : List ByteArray} {ps : Prs} {pre : List Nat} {k : Nat} (h : TurnsTo ps pre) (hr : NextR (askN now lacks ps pre).1 pre (k : Int)) : TurnsTo ps (pre ++ [k]) ∧ k < ps.length ∧ k ∉ pre ∧ (pat (askN now lacks ps pre).1 k).wait = 0 := by
 rcases hr with ⟨e, _⟩ | ⟨k', e, ⟨h1, h2, h3⟩, h4⟩
 ·omega
 ·obtain rfl : k = k' := by omega
  rw [askN_len] at h1
  have hw := h3.1
  rw [askN_other _ _ _ _ _ h2] at h3
  refine ⟨⟨?_, fun i hi => ?_, fun i hi j hj1 hj2 hj3 => ?_⟩, h1, h2, hw⟩
  ·rw [List.pairwise_append]
   exact ⟨h.asc, List.pairwise_singleton _ _, fun a ha b hb => by rw [List.mem_singleton] at hb; subst hb; exact h.ahead a ha b h1 h3 h2⟩
  ·rcases List.mem_append.1 hi with hi | hi
   ·exact h.ok i hi
   ·rw [List.mem_singleton] at hi; subst hi; exact ⟨h1, h3⟩
  ·rw [List.mem_append, List.mem_singleton, not_or] at hj3
   rcases List.mem_append.1 hi with hi | hi
   ·exact h.ahead i hi j hj1 hj2 hj3.1
   ·rw [List.mem_singleton] at hi; subst hi
    have h5 := h4 j ⟨by rw [askN_len]; exact hj1, hj3.1, by rw [askN_other _ _ _ _ _ hj3.1]; exact hj2⟩ hj3.2
    unfold Sooner at h5 ⊢
    rw [askN_other _ _ _ _ _ h2, askN_other _ _ _ _ _ hj3.1] at h5
    exact h5
/-- Whether a cell says so. -/
def isT : Option Value → Bool
 | some (.bool true) => true
 | _ => false
theorem isT_bool (b : Bool) : isT (some (.bool b)) = b := by cases b <;> rfl
/-- How many were not looked at yet. -/
def unseen (W : World) (b n : Nat) : Nat := ((List.range n).filter fun i => !isT (W.cell? ⟨b, i, none⟩)).length
theorem unseen_eq {W : World} {b n : Nat} {pre : List Nat} (h : ∀ i, i < n → W.cell? ⟨b, i, none⟩ = some (.bool (decide (i ∈ pre)))) : unseen W b n = ((List.range n).filter fun i => decide (i ∉ pre)).length := by
 unfold unseen
 congr 1
 apply List.filter_congr
 intro i hi
 rw [h i (List.mem_range.1 hi), isT_bool]
 by_cases e : i ∈ pre <;> simp [e]
theorem filter_less (pre : List Nat) (k : Nat) (hk : k ∉ pre) : ∀ (l : List Nat), k ∈ l → (l.filter fun i => decide (i ∉ pre ++ [k])).length < (l.filter fun i => decide (i ∉ pre)).length
 | [], h => by cases h
 | x :: l, h => by
  have hle : ∀ l : List Nat, (l.filter fun i => decide (i ∉ pre ++ [k])).length ≤ (l.filter fun i => decide (i ∉ pre)).length := fun l => by
   induction l with
   | nil => exact Nat.le_refl _
   | cons y l ih =>
    simp only [List.filter_cons]
    by_cases e1 : y ∈ pre
    ·rw [if_neg (by simp [e1]), if_neg (by simp [e1])]; exact ih
    ·by_cases e2 : y = k
     ·rw [if_neg (by simp [e2]), if_pos (by simp [e1])]
      exact Nat.le_succ_of_le ih
     ·rw [if_pos (by simp [e1, e2]), if_pos (by simp [e1])]
      exact Nat.succ_le_succ ih
  simp only [List.filter_cons]
  by_cases e : x = k
  ·subst e
   rw [if_neg (by simp), if_pos (by simpa using hk)]
   exact Nat.lt_succ_of_le (hle l)
  ·have hkl : k ∈ l := (List.mem_cons.1 h).resolve_left (fun h => e h.symm)
   have ih := filter_less pre k hk l hkl
   by_cases e1 : x ∈ pre
   ·rw [if_neg (by simp [e1]), if_neg (by simp [e1])]; exact ih
   ·rw [if_pos (by simp [e1, e]), if_pos (by simp [e1])]
    exact Nat.succ_lt_succ ih
theorem unseen_less {W W' : World} {b n k : Nat} {pre : List Nat} (h : ∀ i, i < n → W.cell? ⟨b, i, none⟩ = some (.bool (decide (i ∈ pre)))) (h' : ∀ i, i < n → W'.cell? ⟨b, i, none⟩ = some (.bool (decide (i ∈ pre ++ [k])))) (hk : k ∉ pre) (hn : k < n) : unseen W' b n < unseen W b n := by
 rw [unseen_eq h, unseen_eq h']
 exact filter_less pre k hk _ (List.mem_range.2 hn)
end Go.Proofs.YtkghbegdjeehaaaGreatDoor
/- What lies in memory while spec.FetchTick runs. -/
namespace Go.Proofs.YtkghbegdjeehaaaGreatDoor
open Go.RowKit
theorem blk_ne {w : World} {a b : Nat} {T T' : TypeId} {cs cs' : Array Value} (h : Blk w a T cs) (k : Blk w b T' cs') (hne : T ≠ T') : a ≠ b := fun e => by
 subst e
 have h1 : w.heap[a]? = some (.cells cs T) := h
 have h2 : w.heap[a]? = some (.cells cs' T') := k
 rw [h1] at h2
 injection h2 with h3
 injection h3 with _ h4
 exact hne h4
structure SpecAt (W : World) (R X Bf Bm : Nat) (nm : ByteArray) (now : Int) (full : Bool) (wd room : Int) (vi vp : Value) (g cap n : Nat) (its : Itms) (ts : List ByteArray) (qs : PV) (vm : Value) (ms : Mgs) : Prop where
 res : Blk W R 35 fzero
 box : Blk W X 35 (fcells nm now full wd room vi vp (.slice (some ⟨g, 0, none⟩) n cap))
 ne : R ≠ X
 own : FetchOwn W Bf vi vp (.slice (some ⟨g, 0, none⟩) n cap) its ts qs
 len : qs.length = n
 msg : MsgOwn W Bm vm ms
section
variable {W W' : World} {R X Bf Bm : Nat} {nm : ByteArray} {now : Int} {full : Bool} {wd room : Int} {vi vp : Value} {g cap n : Nat} {its : Itms} {ts : List ByteArray} {qs : PV} {vm : Value} {ms : Mgs}
theorem SpecAt.below (H : SpecAt W R X Bf Bm nm now full wd room vi vp g cap n its ts qs vm ms) (T : Below W.heap.size W W') : SpecAt W' R X Bf Bm nm now full wd room vi vp g cap n its ts qs vm ms :=
 ⟨H.res.below T, H.box.below T, H.ne, H.own.below T, H.len, Below.row T H.msg⟩
/-- A block of another type has turned. -/
theorem SpecAt.far {b : Nat} {T : TypeId} {cs : Array Value} (H : SpecAt W R X Bf Bm nm now full wd room vi vp g cap n its ts qs vm ms) (hb : Blk W b T cs) (h1 : T ≠ 35) (h2 : T ≠ 110) (h3 : T ≠ 9) (h4 : T ≠ 50) (h5 : T ≠ 56) (G : W.grownBy W' (some b)) : SpecAt W' R X Bf Bm nm now full wd room vi vp g cap n its ts qs vm ms := by
 have hk : ∀ k, k ≠ b → k < W.heap.size → W'.heap[k]? = W.heap[k]? := fun k hk hl => G.block k hl (fun e => hk (Option.some.inj e))
 refine ⟨H.res.kept G (fun e => blk_ne H.res hb (fun e => h1 e.symm) (Option.some.inj e)), H.box.kept G (fun e => blk_ne H.box hb (fun e => h1 e.symm) (Option.some.inj e)), H.ne, H.own.same fun k hf => hk k (fun e => ?_) (H.own.lt k hf).2, H.len, row_far H.msg G (fun e => row_off_blk H.msg hb (fun e => h5 e.symm) e)⟩
 subst e
 rcases hf with hf | hf | hf | ⟨j, hj, hf⟩
 ·exact row_off_blk H.own.store.items hb (fun e => h2 e.symm) hf
 ·exact row_off_blk H.own.store.pins hb (fun e => h3 e.symm) hf
 ·exact row_off_blk H.own.peers.row hb (fun e => h4 e.symm) hf
 ·exact row_off_blk (H.own.peers.nots j hj) hb (fun e => h3 e.symm) hf
/-- The time has been set. -/
theorem SpecAt.tick {now' : Int} (H : SpecAt W R X Bf Bm nm now full wd room vi vp g cap n its ts qs vm ms) (hbox : Blk W' X 35 (fcells nm now' full wd room vi vp (.slice (some ⟨g, 0, none⟩) n cap))) (G : W.grownBy W' (some X)) : SpecAt W' R X Bf Bm nm now' full wd room vi vp g cap n its ts qs vm ms := by
 refine ⟨H.res.kept G (fun e => H.ne (Option.some.inj e)), hbox, H.ne, H.own.same fun k hf => G.block k (H.own.lt k hf).2 (fun e => ?_), H.len, row_far H.msg G (fun e => row_off_blk H.msg H.box (by decide) e)⟩
 obtain rfl : k = X := Option.some.inj e
 rcases hf with hf | hf | hf | ⟨j, hj, hf⟩
 ·exact row_off_blk H.own.store.items H.box (by decide) hf
 ·exact row_off_blk H.own.store.pins H.box (by decide) hf
 ·exact row_off_blk H.own.peers.row H.box (by decide) hf
 ·exact row_off_blk (H.own.peers.nots j hj) H.box (by decide) hf
/-- A peer has turned. -/
theorem SpecAt.peer {i : Nat} {p' : Pr} (H : SpecAt W R X Bf Bm nm now full wd room vi vp g cap n its ts qs vm ms) (hi : i < qs.length) (hn : p'.nots = (qp qs i).nots) (G : W.grownBy W' (some g)) (hrow : W'.ownsRow Bf 50 5 (.slice (some ⟨g, 0, none⟩) n cap) qs.length (cellsQ (qs.set i (p', qv qs i)))) : SpecAt W' R X Bf Bm nm now full wd room vi vp g cap n its ts (qs.set i (p', qv qs i)) vm ms :=
 ⟨H.res.kept G (fun e => row_off_blk H.own.peers.row H.res (by decide) (by rw [Option.some.inj e]; rfl)), H.box.kept G (fun e => row_off_blk H.own.peers.row H.box (by decide) (by rw [Option.some.inj e]; rfl)), H.ne, fetch_put H.own hi hn G hrow, by rw [List.length_set]; exact H.len, row_far H.msg G (fun e => rows_off H.msg H.own.peers.row (by decide) e rfl)⟩
/-- One message more. -/
theorem SpecAt.send {vm' : Value} {q : Mg} {o : Obj} (H : SpecAt W R X Bf Bm nm now full wd room vi vp g cap n its ts qs vm ms) (hg : (W.alloc o).grownBy W' vm.ownBlock) (hr : W'.ownsRow Bm 56 5 vm' (ms.length + 1) (cellsG ms ++ [.int .i64 q.fr, .int .i64 q.to, .string q.sum, .bool q.has, .string q.text])) : SpecAt W' R X Bf Bm nm now full wd room vi vp g cap n its ts qs vm' (ms ++ [q]) := by
 have D : Below W.heap.size W (W.alloc o) := (Below.refl _ _).alloc (Nat.le_refl _) _
 have H1 := H.below D
 have hk : ∀ k, k < (W.alloc o).heap.size → vm.ownBlock ≠ some k → W'.heap[k]? = (W.alloc o).heap[k]? := fun k hl hn => hg.block k hl (fun e => hn e.symm)
 refine ⟨(hk R H1.res.lt (fun e => row_off_blk H1.msg H1.res (by decide) e)).trans H1.res, (hk X H1.box.lt (fun e => row_off_blk H1.msg H1.box (by decide) e)).trans H1.box, H.ne, H1.own.same fun k hf => hk k (H1.own.lt k hf).2 (fun e => fetch_msg H1.own H1.msg k e hf), H.len, ?_⟩
 unfold MsgOwn
 rw [List.length_append, cellsG_snoc]
 exact hr
end
theorem row_empty (w : World) (B : Nat) (T : TypeId) (size : Nat) (hB : B ≤ w.heap.size) : (w.alloc (.cells #[] T)).ownsRow B T size (.slice (some ⟨w.heap.size, 0, none⟩) 0 0) 0 [] :=
 ⟨by simp, .inr ⟨w.heap.size, 0, #[], rfl, hB, World.alloc_heap_new w _, Nat.le_refl _, by simp [maxLen], by simp, by simp⟩⟩
end Go.Proofs.YtkghbegdjeehaaaGreatDoor
/- spec.FetchTick. -/
namespace Go.Proofs.YtkghbegdjeehaaaGreatDoor
open Go.RowKit
theorem Tryz.infoBoolT : (Tryz.prog.info? 4).map (fun i => (i.zero, i.size, i.bytes)) = some (some (.bool false), 1, 1) := by kernel_rfl
set_option maxRecDepth 100000 in
set_option maxHeartbeats 16000000 in
theorem specFetchTick_any (nm : ByteArray) (now : Int) (full : Bool) (wd room : Int) (vi vp vq : Value) (its : Itms) (ts : List ByteArray) (qs0 : PV) (w : World) (B : Nat) (hf : FetchOwn w B vi vp vq its ts qs0) (hli : its.length ≤ 1048576) (hlp : ts.length ≤ 1048576) (hlq : qs0.length ≤ 1048576) (hsi : ∀ i, (itx its i).size ≤ 1048576) (hsp : ∀ i, (tv ts i).size ≤ 1048576) (hpf : PsFit 1048576 (qs0.map Prod.fst)) :
  Calls Tryz.prog 5 #[fval nm now full wd room vi vp vq] w (TickQ nm now full wd room its ts (qs0.map Prod.fst) w) := by
 obtain ⟨i0, hi0, hz0, hz1, hz2⟩ := info_parts Tryz.infoMsg
 obtain ⟨ib, hib, hy0, hy1, hy2⟩ := info_parts Tryz.infoBoolT
 obtain ⟨ai, ci, hvi⟩ := row_any hf.store.items
 subst hvi
 obtain ⟨ap, cp, hvp⟩ := row_any hf.store.pins
 subst hvp
 obtain ⟨aq, cq, hvq⟩ := row_any hf.peers.row
 subst hvq
 have hA := (((Below.refl w.heap.size w).alloc (Nat.le_refl _) (.cells (fcells nm now full wd room (.slice ai its.length ci) (.slice ap ts.length cp) (.slice aq qs0.length cq)) 35)).alloc (by simp) (.cells fzero 35)).alloc (by simp; omega) (.cells #[] 56)
 have N1 := ((Blk.new w 35 (fcells nm now full wd room (.slice ai its.length ci) (.slice ap ts.length cp) (.slice aq qs0.length cq))).alloc (.cells fzero 35)).alloc (.cells #[] 56)
 have N2 := (Blk.new (w.alloc (.cells (fcells nm now full wd room (.slice ai its.length ci) (.slice ap ts.length cp) (.slice aq qs0.length cq)) 35)) 35 fzero).alloc (.cells #[] 56)
 rw [World.size_alloc] at N2
 have M0 := row_empty ((w.alloc (.cells (fcells nm now full wd room (.slice ai its.length ci) (.slice ap ts.length cp) (.slice aq qs0.length cq)) 35)).alloc (.cells fzero 35)) (w.heap.size + 2) 56 5 (by simp)
 rw [World.size_alloc, World.size_alloc] at M0
 obtain ⟨w3, hw3⟩ : ∃ x, x = ((w.alloc (.cells (fcells nm now full wd room (.slice ai its.length ci) (.slice ap ts.length cp) (.slice aq qs0.length cq)) 35)).alloc (.cells fzero 35)).alloc (.cells #[] 56) := ⟨_, rfl⟩
 have hz : w3.heap.size = w.heap.size + 3 := by rw [hw3, World.size_alloc, World.size_alloc, World.size_alloc]
 rw [← hw3] at hA N1 N2 M0
 have hza : w.heap.size + 3 ≤ w3.heap.size := by omega
 have HA := hid hA
 have HN1 := hid N1
 have HN2 := hid N2
 have HM0 := hid M0
 have HF0 := hid (hf.below hA)
 have HSI := hid hsi
 have HSP := hid hsp
 have hlq' : (qs0.map Prod.fst).length ≤ 1048576 := by rw [List.length_map]; exact hlq
 have HV := hid (specValidFetch_any nm now full wd room _ _ _ its ts (qs0.map Prod.fst) w3 (hf.below hA).store.rdi (Reads.of_row (hf.below hA).store.pins) (hf.below hA).peers.rdp hli hlp hlq' hsi hsp hpf)
 have HPF := hid hpf
 have HCP := hid fun (W : World) (h : FetchOwn W B (.slice ai its.length ci) (.slice ap ts.length cp) (.slice aq qs0.length cq) its ts qs0) => l7Copy_any nm now full wd room _ _ _ its ts qs0 W B h hli hlp hlq (fun i hi => by have h2 := (hpf i (by rw [List.length_map]; exact hi)).nots; rw [pat_fst1] at h2; exact h2)
 clear hf hA N1 N2 M0 hsi hsp hpf hz hlq'
 go_enter Tryz.func5, Tryz.ntmps5
 go_wp2_with fail
 rw [← hw3]
 clear hw3
 refine HV.out.mono ?_
 rintro e w4 ⟨b, rfl, hb, hb4⟩
 have hs4 := hb4.size
 cases b with
 | false =>
  have HF : Hid (TickR nm now full wd room its ts (qs0.map Prod.fst) ⟨#[]⟩ 0 false 0 0 [] [] (([] : PV).map Prod.fst) []) := hid (.inl ⟨(fun h => by have := hb.2 h; cases this), rfl, rfl, rfl, rfl, rfl, rfl, rfl, rfl, rfl⟩)
  have B4 := HA.out.trans (hb4.mono HA.out.size)
  have NR := HN2.out.below hb4
  have M4 := Below.row hb4 HM0.out
  have s := NR.store8 (.string ⟨#[]⟩) (.int .i64 0) (.bool false) (.int .i64 0) (.int .i64 0) (.slice none 0 0) (.slice none 0 0) (.slice none 0 0)
  obtain ⟨q0, k0, q1, k1, q2, k2, q3, k3, q4, k4, q5, k5, q6, k6, q7, k7⟩ := s
  have Z := hid (NR.set8 (.string ⟨#[]⟩) (.int .i64 0) (.bool false) (.int .i64 0) (.int .i64 0) (.slice none 0 0) (.slice none 0 0) (.slice none 0 0))
  have BB := hid (below_set8 B4 (b := w.heap.size + 1) (by omega) (Nat.le_refl _) (.string ⟨#[]⟩) (.int .i64 0) (.bool false) (.int .i64 0) (.int .i64 0) (.slice none 0 0) (.slice none 0 0) (.slice none 0 0))
  have HQ8 : Hid (TickQ nm now full wd room its ts (qs0.map Prod.fst) w (.returned (.tuple #[fval ⟨#[]⟩ 0 false 0 0 (.slice none 0 0) (.slice none 0 0) (.slice none 0 0), (.slice (some ⟨w.heap.size + 1 + 1, 0, none⟩) 0 0)])) (set8 w4 (w.heap.size + 1) (.string ⟨#[]⟩) (.int .i64 0) (.bool false) (.int .i64 0) (.int .i64 0) (.slice none 0 0) (.slice none 0 0) (.slice none 0 0))) := hid ⟨⟨#[]⟩, 0, false, 0, 0, [], [], [], _, _, _, _, [], rfl, HF.out, FetchOwn.none _ _, row_far M4 (grown_set8 w4 (w.heap.size + 1) (.string ⟨#[]⟩) (.int .i64 0) (.bool false) (.int .i64 0) (.int .i64 0) (.slice none 0 0) (.slice none 0 0) (.slice none 0 0)) (fun e => by have e' : w.heap.size + 1 + 1 = w.heap.size + 1 := Option.some.inj e; omega), fun g _ h => (by rcases h with h | h | h | ⟨_, h, _⟩ <;> first | (cases h; done) | exact absurd h (by simp)), BB.out⟩
  clear NR B4 hb4 hb M4
  go_wp2
  rw [set8_def]
  exact bodyPost_ret (v := .tuple #[fval ⟨#[]⟩ 0 false 0 0 (.slice none 0 0) (.slice none 0 0) (.slice none 0 0), (.slice (some ⟨w.heap.size + 1 + 1, 0, none⟩) 0 0)]) (by simp [results, Tryz.results5, go_sem, Z.out.cell]) rfl HQ8.out
 | true =>
 have HVAL := hid (hb.1 rfl)
 have HCP4 := hid (HCP.out w4 (HF0.out.below hb4))
 have X4 := HN1.out.below hb4
 have x0 : w4.cell? ⟨w.heap.size, 0, none⟩ = some (.string nm) := X4.cell 0
 have x1 : w4.cell? ⟨w.heap.size, 1, none⟩ = some (.int .i64 now) := X4.cell 1
 have x2 : w4.cell? ⟨w.heap.size, 2, none⟩ = some (.bool full) := X4.cell 2
 have x3 : w4.cell? ⟨w.heap.size, 3, none⟩ = some (.int .i64 wd) := X4.cell 3
 have x4 : w4.cell? ⟨w.heap.size, 4, none⟩ = some (.int .i64 room) := X4.cell 4
 have x5 : w4.cell? ⟨w.heap.size, 5, none⟩ = some (.slice ai its.length ci) := X4.cell 5
 have x6 : w4.cell? ⟨w.heap.size, 6, none⟩ = some (.slice ap ts.length cp) := X4.cell 6
 have x7 : w4.cell? ⟨w.heap.size, 7, none⟩ = some (.slice aq qs0.length cq) := X4.cell 7
 have HB4 := hid hb4
 clear hb X4 hb4
 go_wp2_with fail
 refine HCP4.out.mono ?_
 rintro e w5 ⟨vi1, vp1, vq1, qs1, rfl, hq1, fo1, hb5⟩
 obtain ⟨a1, c1, rfl⟩ := row_any fo1.store.items
 obtain ⟨b1, d1, rfl⟩ := row_any fo1.store.pins
 obtain ⟨e1, g1, rfl⟩ := row_any fo1.peers.row
 have hl10 : qs1.length = qs0.length := by have := congrArg List.length hq1; simpa using this
 have hcnt := HVAL.out.count
 rw [List.length_map] at hcnt
 have hs5 := hb5.size
 have HPS := hid hq1
 obtain ⟨gq, capq, eq, hgq, hgql⟩ := World.ownsRow.form fo1.peers.row (by omega)
 obtain ⟨rfl, _, rfl⟩ : e1 = some ⟨gq, 0, none⟩ ∧ qs1.length = qs1.length ∧ g1 = capq := Value.slice.inj eq
 rw [hl10] at fo1
 rw [hl10]
 have B5 := HB4.out.trans (hb5.mono hs4)
 have D6 : Below w5.heap.size w5 (w5.alloc (.cells (fcells nm now full wd room (.slice a1 its.length c1) (.slice b1 ts.length d1) (.slice (some ⟨gq, 0, none⟩) qs0.length g1)) 35)) := (Below.refl _ _).alloc (Nat.le_refl _) _
 have S6 : SpecAt (w5.alloc (.cells (fcells nm now full wd room (.slice a1 its.length c1) (.slice b1 ts.length d1) (.slice (some ⟨gq, 0, none⟩) qs0.length g1)) 35)) (w.heap.size + 1) w5.heap.size w4.heap.size (w.heap.size + 2) nm now full wd room (.slice a1 its.length c1) (.slice b1 ts.length d1) gq g1 qs0.length its ts qs1 (.slice (some ⟨w.heap.size + 1 + 1, 0, none⟩) 0 0) ([] : Mgs) := ⟨(HN2.out.below B5).below D6, Blk.new w5 35 _, by omega, (fo1.below D6).base (by omega), hl10, Below.row D6 (Below.row B5 HM0.out)⟩
 have B6 := (HA.out.trans (B5.mono HA.out.size)).trans (D6.mono (by omega))
 have N6 := (HN1.out.below B5).below D6
 obtain ⟨w6, hw6⟩ : ∃ x, x = w5.alloc (.cells (fcells nm now full wd room (.slice a1 its.length c1) (.slice b1 ts.length d1) (.slice (some ⟨gq, 0, none⟩) qs0.length g1)) 35) := ⟨_, rfl⟩
 rw [← hw6] at S6 B6 N6
 have HS6 := hid S6
 have HB6 := hid B6
 have y1 : w6.cell? ⟨w.heap.size, 1, none⟩ = some (.int .i64 now) := N6.cell 1
 have htime := HVAL.out.time
 have hx5 : w.heap.size + 3 ≤ w4.heap.size := by omega
 clear x0 x1 x2 x3 x4 x5 x6 x7 hq1 fo1 hb5 B5 D6 S6 N6 B6 eq
 go_upto_region 5 with fail
 rw [← hw6]
 clear hw6
 by_cases hmax : 1000000 ≤ now
 ·have HF : Hid (TickR nm now full wd room its ts (qs0.map Prod.fst) nm now full wd room its ts (qs1.map Prod.fst) []) := hid (.inr ⟨HVAL.out, rfl, rfl, rfl, rfl, rfl, rfl, .inl ⟨hmax, rfl, HPS.out, rfl⟩⟩)
  have c0' : w6.cell? ⟨w5.heap.size, 0, none⟩ = some (.string nm) := HS6.out.box.cell 0
  have c1' : w6.cell? ⟨w5.heap.size, 1, none⟩ = some (.int .i64 now) := HS6.out.box.cell 1
  have c2' : w6.cell? ⟨w5.heap.size, 2, none⟩ = some (.bool full) := HS6.out.box.cell 2
  have c3' : w6.cell? ⟨w5.heap.size, 3, none⟩ = some (.int .i64 wd) := HS6.out.box.cell 3
  have c4' : w6.cell? ⟨w5.heap.size, 4, none⟩ = some (.int .i64 room) := HS6.out.box.cell 4
  have c5' : w6.cell? ⟨w5.heap.size, 5, none⟩ = some (.slice a1 its.length c1) := HS6.out.box.cell 5
  have c6' : w6.cell? ⟨w5.heap.size, 6, none⟩ = some (.slice b1 ts.length d1) := HS6.out.box.cell 6
  have c7' : w6.cell? ⟨w5.heap.size, 7, none⟩ = some (.slice (some ⟨gq, 0, none⟩) qs0.length g1) := HS6.out.box.cell 7
  have s := HS6.out.res.store8 (.string nm) (.int .i64 now) (.bool full) (.int .i64 wd) (.int .i64 room) (.slice a1 its.length c1) (.slice b1 ts.length d1) (.slice (some ⟨gq, 0, none⟩) qs0.length g1)
  obtain ⟨q0, k0, q1, k1, q2, k2, q3, k3, q4, k4, q5, k5, q6, k6, q7, k7⟩ := s
  have HZ := hid (HS6.out.res.set8 (.string nm) (.int .i64 now) (.bool full) (.int .i64 wd) (.int .i64 room) (.slice a1 its.length c1) (.slice b1 ts.length d1) (.slice (some ⟨gq, 0, none⟩) qs0.length g1))
  have BB := hid (below_set8 HB6.out (b := w.heap.size + 1) (by omega) (Nat.le_refl _) (.string nm) (.int .i64 now) (.bool full) (.int .i64 wd) (.int .i64 room) (.slice a1 its.length c1) (.slice b1 ts.length d1) (.slice (some ⟨gq, 0, none⟩) qs0.length g1))
  have G8 := grown_set8 w6 (w.heap.size + 1) (.string nm) (.int .i64 now) (.bool full) (.int .i64 wd) (.int .i64 room) (.slice a1 its.length c1) (.slice b1 ts.length d1) (.slice (some ⟨gq, 0, none⟩) qs0.length g1)
  have FOR := HS6.out.own.kept G8 (by omega)
  have MOR : MsgOwn (set8 w6 (w.heap.size + 1) (.string nm) (.int .i64 now) (.bool full) (.int .i64 wd) (.int .i64 room) (.slice a1 its.length c1) (.slice b1 ts.length d1) (.slice (some ⟨gq, 0, none⟩) qs0.length g1)) (w.heap.size + 2) (.slice (some ⟨w.heap.size + 1 + 1, 0, none⟩) 0 0) (([] : List (Nat × ByteArray)).map msgOf) := row_far HS6.out.msg G8 (fun e => by have := (World.ownsRow.lt HS6.out.msg _ e).1; omega)
  have HQ8 : Hid (TickQ nm now full wd room its ts (qs0.map Prod.fst) w (.returned (.tuple #[fval nm now full wd room (.slice a1 its.length c1) (.slice b1 ts.length d1) (.slice (some ⟨gq, 0, none⟩) qs0.length g1), (.slice (some ⟨w.heap.size + 1 + 1, 0, none⟩) 0 0)])) (set8 w6 (w.heap.size + 1) (.string nm) (.int .i64 now) (.bool full) (.int .i64 wd) (.int .i64 room) (.slice a1 its.length c1) (.slice b1 ts.length d1) (.slice (some ⟨gq, 0, none⟩) qs0.length g1))) := hid ⟨nm, now, full, wd, room, its, ts, qs1, _, _, _, _, ([] : List (Nat × ByteArray)), rfl, HF.out, FOR.base (show w.heap.size + 2 ≤ w4.heap.size by omega), MOR, fetch_msg FOR MOR, BB.out⟩
  clear G8 FOR MOR
  go_wp2
  rw [set8_def]
  exact bodyPost_ret (v := .tuple #[fval nm now full wd room (.slice a1 its.length c1) (.slice b1 ts.length d1) (.slice (some ⟨gq, 0, none⟩) qs0.length g1), (.slice (some ⟨w.heap.size + 1 + 1, 0, none⟩) 0 0)]) (by simp [results, Tryz.results5, go_sem, HZ.out.cell]) rfl HQ8.out
 have z1 : w6.cell? ⟨w5.heap.size, 1, none⟩ = some (.int .i64 now) := HS6.out.box.cell 1
 have zf := HS6.out.box.fz 1
 have hwn : IntKind.i64.wrap (now + 1) = now + 1 := by rw [IntKind.wrap_i64]; omega
 have X7 : Blk (w6.setCell ⟨w5.heap.size, 1, none⟩ (.int .i64 (now + 1))) w5.heap.size 35 (fcells nm (now + 1) full wd room (.slice a1 its.length c1) (.slice b1 ts.length d1) (.slice (some ⟨gq, 0, none⟩) qs0.length g1)) := HS6.out.box.set 1 (.int .i64 (now + 1))
 have S7 := HS6.out.tick X7 (grownBy_setCellAt w6 w5.heap.size 1 (.int .i64 (now + 1)))
 have B7 : Below w.heap.size w (w6.setCell ⟨w5.heap.size, 1, none⟩ (.int .i64 (now + 1))) := HB6.out.grown (grownBy_setCellAt w6 w5.heap.size 1 (.int .i64 (now + 1))) HB6.out.size (fun g e => by cases e; omega)
 obtain ⟨w7, hw7⟩ : ∃ x, x = w6.setCell ⟨w5.heap.size, 1, none⟩ (.int .i64 (now + 1)) := ⟨_, rfl⟩
 rw [← hw7] at S7 B7
 have HS7 := hid S7
 have HB7 := hid B7
 have hlt : now < 1000000 := by omega
 have HW : Hid (∀ i, i < qs0.length → PrOk now wd (qp qs1 i)) := hid fun i hi => by
  have h := HVAL.out.each i (by rw [List.length_map]; exact hi)
  rw [← HPS.out, pat_fst1] at h
  exact h
 clear X7 S7 B7 hmax
 go_wp2
 rw [← hw7]
 clear hw7 z1 zf y1
 go_loopw [6] (fun i' wr => ∃ (k : Nat) (qs' : PV), k ≤ qs0.length ∧ i' = .int .i64 k ∧ (∀ j, j < qs0.length → qp qs' j = if j < k then waitP (qp qs1 j) else qp qs1 j) ∧ SpecAt wr (w.heap.size + 1) w5.heap.size w4.heap.size (w.heap.size + 2) nm (now + 1) full wd room (.slice a1 its.length c1) (.slice b1 ts.length d1) gq g1 qs0.length its ts qs' (.slice (some ⟨w.heap.size + 1 + 1, 0, none⟩) 0 0) ([] : Mgs) ∧ Below w.heap.size w wr) (fun i' _ => qs0.length - (intOf i').toNat)
 case atStart => exact ⟨0, qs1, Nat.zero_le _, rfl, fun j _ => by rw [if_neg (by omega)], HS7.out, HB7.out⟩
 case round =>
  obtain ⟨k, qs', hk, rfl, hqp, hsp, hbw⟩ := hrel
  have HQP := hid hqp
  have HSR := hid hsp
  have HBR := hid hbw
  have hql := hsp.len
  have c7 : wr.cell? ⟨w5.heap.size, 7, none⟩ = some (.slice (some ⟨gq, 0, none⟩) qs0.length g1) := hsp.box.cell 7
  by_cases hkn : k < qs0.length
  case neg =>
   obtain rfl : k = qs0.length := by omega
   have hmapw : qs'.map Prod.fst = (qs0.map Prod.fst).map waitP := by
    rw [← HPS.out]
    apply List.ext_getElem
    ·simp [hql, hl10]
    ·intro i h1 h2
     have hi : i < qs0.length := by simpa [hl10] using h2
     have h3 := HQP.out i hi
     rw [if_pos hi] at h3
     have e1 : qp qs' i = qs'[i].1 := by simp [qp, show i < qs'.length by omega]
     have e2 : qp qs1 i = qs1[i].1 := by simp [qp, show i < qs1.length by omega]
     rw [e1, e2] at h3
     simp only [List.getElem_map]
     exact h3
   have HMW := hid hmapw
   have c2 : wr.cell? ⟨w5.heap.size, 2, none⟩ = some (.bool full) := hsp.box.cell 2
   clear hqp hsp hbw hmapw
   cases full with
   | true =>
    have HF : Hid (TickR nm now true wd room its ts (qs0.map Prod.fst) nm (now + 1) true wd room its ts (qs'.map Prod.fst) []) := hid (.inr ⟨HVAL.out, rfl, rfl, rfl, rfl, rfl, rfl, .inr (.inl ⟨hlt, rfl, rfl, HMW.out, rfl⟩)⟩)
    have c0' : wr.cell? ⟨w5.heap.size, 0, none⟩ = some (.string nm) := HSR.out.box.cell 0
    have c1' : wr.cell? ⟨w5.heap.size, 1, none⟩ = some (.int .i64 (now + 1)) := HSR.out.box.cell 1
    have c2' : wr.cell? ⟨w5.heap.size, 2, none⟩ = some (.bool true) := HSR.out.box.cell 2
    have c3' : wr.cell? ⟨w5.heap.size, 3, none⟩ = some (.int .i64 wd) := HSR.out.box.cell 3
    have c4' : wr.cell? ⟨w5.heap.size, 4, none⟩ = some (.int .i64 room) := HSR.out.box.cell 4
    have c5' : wr.cell? ⟨w5.heap.size, 5, none⟩ = some (.slice a1 its.length c1) := HSR.out.box.cell 5
    have c6' : wr.cell? ⟨w5.heap.size, 6, none⟩ = some (.slice b1 ts.length d1) := HSR.out.box.cell 6
    have c7' : wr.cell? ⟨w5.heap.size, 7, none⟩ = some (.slice (some ⟨gq, 0, none⟩) qs0.length g1) := HSR.out.box.cell 7
    have s := HSR.out.res.store8 (.string nm) (.int .i64 (now + 1)) (.bool true) (.int .i64 wd) (.int .i64 room) (.slice a1 its.length c1) (.slice b1 ts.length d1) (.slice (some ⟨gq, 0, none⟩) qs0.length g1)
    obtain ⟨q0, k0, q1, k1, q2, k2, q3, k3, q4, k4, q5, k5, q6, k6, q7, k7⟩ := s
    have HZ := hid (HSR.out.res.set8 (.string nm) (.int .i64 (now + 1)) (.bool true) (.int .i64 wd) (.int .i64 room) (.slice a1 its.length c1) (.slice b1 ts.length d1) (.slice (some ⟨gq, 0, none⟩) qs0.length g1))
    have BB := hid (below_set8 HBR.out (b := w.heap.size + 1) (by omega) (Nat.le_refl _) (.string nm) (.int .i64 (now + 1)) (.bool true) (.int .i64 wd) (.int .i64 room) (.slice a1 its.length c1) (.slice b1 ts.length d1) (.slice (some ⟨gq, 0, none⟩) qs0.length g1))
    have G8 := grown_set8 wr (w.heap.size + 1) (.string nm) (.int .i64 (now + 1)) (.bool true) (.int .i64 wd) (.int .i64 room) (.slice a1 its.length c1) (.slice b1 ts.length d1) (.slice (some ⟨gq, 0, none⟩) qs0.length g1)
    have FOR := HSR.out.own.kept G8 (by omega)
    have MOR : MsgOwn (set8 wr (w.heap.size + 1) (.string nm) (.int .i64 (now + 1)) (.bool true) (.int .i64 wd) (.int .i64 room) (.slice a1 its.length c1) (.slice b1 ts.length d1) (.slice (some ⟨gq, 0, none⟩) qs0.length g1)) (w.heap.size + 2) (.slice (some ⟨w.heap.size + 1 + 1, 0, none⟩) 0 0) (([] : List (Nat × ByteArray)).map msgOf) := row_far HSR.out.msg G8 (fun e => by have := (World.ownsRow.lt HSR.out.msg _ e).1; omega)
    have HQ8 : Hid (TickQ nm now true wd room its ts (qs0.map Prod.fst) w (.returned (.tuple #[fval nm (now + 1) true wd room (.slice a1 its.length c1) (.slice b1 ts.length d1) (.slice (some ⟨gq, 0, none⟩) qs0.length g1), (.slice (some ⟨w.heap.size + 1 + 1, 0, none⟩) 0 0)])) (set8 wr (w.heap.size + 1) (.string nm) (.int .i64 (now + 1)) (.bool true) (.int .i64 wd) (.int .i64 room) (.slice a1 its.length c1) (.slice b1 ts.length d1) (.slice (some ⟨gq, 0, none⟩) qs0.length g1))) := hid ⟨nm, (now + 1), true, wd, room, its, ts, qs', _, _, _, _, ([] : List (Nat × ByteArray)), rfl, HF.out, FOR.base (show w.heap.size + 2 ≤ w4.heap.size by omega), MOR, fetch_msg FOR MOR, BB.out⟩
    clear G8 FOR MOR
    go_wp2
    rw [set8_def]
    exact bodyPost_ret (v := .tuple #[fval nm (now + 1) true wd room (.slice a1 its.length c1) (.slice b1 ts.length d1) (.slice (some ⟨gq, 0, none⟩) qs0.length g1), (.slice (some ⟨w.heap.size + 1 + 1, 0, none⟩) 0 0)]) (by simp [results, Tryz.results5, go_sem, HZ.out.cell]) rfl HQ8.out
   | false =>
    have hsz := HVAL.out.name_size
    obtain ⟨ps1, hps1⟩ : ∃ p, p = (qs0.map Prod.fst).map waitP := ⟨_, rfl⟩
    rw [← hps1] at HMW
    have hpl : ps1.length = qs0.length := by rw [hps1]; simp
    have HPS1 := hid hps1
    clear hps1
    have HLK := hid (specLacks_row wd room (.slice a1 its.length c1) (.slice b1 ts.length d1) its ts nm wr HSR.out.own.store.rdi (Reads.of_row HSR.out.own.store.pins) hli hlp HSI.out HSP.out)
    have z0 : wr.cell? ⟨w5.heap.size, 0, none⟩ = some (.string nm) := HSR.out.box.cell 0
    have z1 : wr.cell? ⟨w5.heap.size, 1, none⟩ = some (.int .i64 (now + 1)) := HSR.out.box.cell 1
    have z2 : wr.cell? ⟨w5.heap.size, 2, none⟩ = some (.bool false) := HSR.out.box.cell 2
    have z3 : wr.cell? ⟨w5.heap.size, 3, none⟩ = some (.int .i64 wd) := HSR.out.box.cell 3
    have z4 : wr.cell? ⟨w5.heap.size, 4, none⟩ = some (.int .i64 room) := HSR.out.box.cell 4
    have z5 : wr.cell? ⟨w5.heap.size, 5, none⟩ = some (.slice a1 its.length c1) := HSR.out.box.cell 5
    have z6 : wr.cell? ⟨w5.heap.size, 6, none⟩ = some (.slice b1 ts.length d1) := HSR.out.box.cell 6
    have z7 : wr.cell? ⟨w5.heap.size, 7, none⟩ = some (.slice (some ⟨gq, 0, none⟩) qs0.length g1) := HSR.out.box.cell 7
    go_wp2_with fail
    refine HLK.out.mono ?_
    rintro e w9 ⟨v9, lacks, rfl, hlv, hrd9, hb9⟩
    have hlu : LackU wd its nm lacks := by
     rcases hlv with ⟨h, _⟩ | ⟨_, h⟩
     ·exact absurd ⟨HVAL.out.store, hsz⟩ h
     ·exact h
    have hfew := hlu.few.1
    have HLU := hid hlu
    have HLS := hid (hlu.sizes hsz)
    obtain ⟨a9, c9, hv9, _⟩ := hrd9.rd.form
    subst hv9
    have S9 := HSR.out.below hb9
    have B9 := HBR.out.trans (hb9.mono HBR.out.size)
    have hs9 := B9.size
    obtain ⟨M, hM⟩ : ∃ M, M = madeCells (Value.bool false).cells (((qs0.length : Nat) : Int).toNat * ib.size) := ⟨_, rfl⟩
    have hMs : M.size = qs0.length := by rw [hM, size_madeCells, hy1]; simp
    have hMv : ∀ i, i < qs0.length → M[i]? = some (.bool (decide (i ∈ ([] : List Nat)))) := fun i hi => by
     have h1 : M.toList = List.replicate qs0.length (.bool false) := by
      rw [hM, hy1]
      simp only [Int.toNat_natCast, Nat.mul_one]
      exact toList_madeCells_one (.bool false) qs0.length
     rw [← Array.getElem?_toList, h1]
     simp [hi]
    have hmk : ∀ W : World, (Instr.makeSlice 52 (.int .i64 (qs0.length : Int)) (.int .i64 (qs0.length : Int))).run Tryz.prog W = .ok (.slice (some ⟨W.heap.size, 0, none⟩) qs0.length qs0.length) (W.alloc (.cells M 4)) := fun W => by
     have h := run_make (P := Tryz.prog) W 52 4 ib (.bool false) Tryz.underlying52 hib hy0 .i64 .i64 (qs0.length : Int) (qs0.length : Int) (by omega) (by omega) (by rw [hy2]; omega) (by omega)
     rw [← hM] at h
     simpa using h
    have D10 : Below w9.heap.size w9 (w9.alloc (.cells M 4)) := (Below.refl _ _).alloc (Nat.le_refl _) _
    have S10 := S9.below D10
    have B10 := B9.trans (D10.mono B9.size)
    have X10 := Blk.new w9 4 M
    have L10 : LkRow (w9.alloc (.cells M 4)) (.slice a9 lacks.length c9) lacks := hrd9.imp id (fun ⟨Bq, h⟩ => ⟨Bq, Below.row D10 h⟩)
    have HNEXT : Hid (∀ (W : World) (q : PV) (vm : Value) (ms : Mgs) (pre : List Nat) (cs : Array Value), SpecAt W (w.heap.size + 1) w5.heap.size w4.heap.size (w.heap.size + 2) nm (now + 1) false wd room (.slice a1 its.length c1) (.slice b1 ts.length d1) gq g1 qs0.length its ts q vm ms → Blk W w9.heap.size 4 cs → (∀ i, i < qs0.length → cs[i]? = some (.bool (decide (i ∈ pre)))) → Calls Tryz.prog 19 #[fval nm (now + 1) false wd room (.slice a1 its.length c1) (.slice b1 ts.length d1) (.slice (some ⟨gq, 0, none⟩) qs0.length g1), .slice (some ⟨w9.heap.size, 0, none⟩) qs0.length qs0.length] W fun e w' => ∃ r, e = .returned (.int .i64 r) ∧ NextR (q.map Prod.fst) pre r ∧ Below W.heap.size W w') := hid fun W q vm ms pre cs hS hX hc => by
     have hl : (q.map Prod.fst).length = qs0.length := by rw [List.length_map]; exact hS.len
     have h := l7Next_any nm (now + 1) false wd room (.slice a1 its.length c1) (.slice b1 ts.length d1) (.slice (some ⟨gq, 0, none⟩) qs0.length g1) (q.map Prod.fst) pre w9.heap.size qs0.length W ⟨_, _, _, rfl⟩ ⟨_, _, _, rfl⟩ hS.own.peers.rdp (by omega) hX.lt (fun i hi => by rw [hl] at hi; exact (hX.cell i).trans (hc i hi))
     rw [hl] at h
     exact h
    have HCHO : Hid (∀ (W : World) (q : PV) (vm : Value) (ms : Mgs) (k : Nat), SpecAt W (w.heap.size + 1) w5.heap.size w4.heap.size (w.heap.size + 2) nm (now + 1) false wd room (.slice a1 its.length c1) (.slice b1 ts.length d1) gq g1 qs0.length its ts q vm ms → LkRow W (.slice a9 lacks.length c9) lacks → k < qs0.length → (∀ i, i < qs0.length → PrOk (now + 1) wd (qp q i)) → Calls Tryz.prog 20 #[fval nm (now + 1) false wd room (.slice a1 its.length c1) (.slice b1 ts.length d1) (.slice (some ⟨gq, 0, none⟩) qs0.length g1), .slice a9 lacks.length c9, .int .i64 k] W fun e w' => ∃ s, e = .returned (.string s) ∧ ((choice (q.map Prod.fst) lacks k = none ∧ s = ⟨#[]⟩) ∨ choice (q.map Prod.fst) lacks k = some s) ∧ Below W.heap.size W w') := hid fun W q vm ms k hS hL hk hp => by
     have hl : (q.map Prod.fst).length = qs0.length := by rw [List.length_map]; exact hS.len
     exact l7Choice_any nm (now + 1) false wd room (.slice a1 its.length c1) (.slice b1 ts.length d1) (.slice (some ⟨gq, 0, none⟩) qs0.length g1) (.slice a9 lacks.length c9) (q.map Prod.fst) lacks k W ⟨_, _, _, rfl⟩ ⟨_, _, _, rfl⟩ hS.own.peers.rdp (by omega) (by omega) (fun i hi => by rw [pat_fst1]; exact (hp i (by omega)).wait.1) (by rw [pat_fst1]; have := (hp k hk).many; omega) hL.rd (by omega)
    have HPRW : Hid (∀ pre : List Nat, ∀ j, j < qs0.length → PrOk (now + 1) wd (pat (askN (now + 1) lacks ps1 pre).1 j)) := hid fun pre j hj => fold_ok (by omega) HLS.out pre (ps1, []) (fun i hi => by
     have hi' : i < qs0.length := by have h : i < ps1.length := hi; omega
     rw [HPS1.out, pat_map _ i (by simpa using hi')]
     exact waitP_ok (HVAL.out.each i (by simpa using hi'))) j (by show j < (askN (now + 1) lacks ps1 pre).1.length; rw [askN_len]; omega)
    have HN0 := hid (HNEXT.out _ qs' (.slice (some ⟨w.heap.size + 1 + 1, 0, none⟩) 0 0) [] [] M S10 X10 hMv)
    obtain ⟨w10, hw10⟩ : ∃ x, x = w9.alloc (.cells M 4) := ⟨_, rfl⟩
    have hz10 : w9.heap.size + 1 ≤ w10.heap.size := by rw [hw10, World.size_alloc]; exact Nat.le_refl _
    rw [← hw10] at S10 B10 X10 L10 HN0
    have HS10 := hid S10
    have HB10 := hid B10
    have HX10 := hid X10
    have HL10 := hid L10
    have HMV := hid hMv
    have HMS := hid hMs
    have b7 : w9.cell? ⟨w5.heap.size, 7, none⟩ = some (.slice (some ⟨gq, 0, none⟩) qs0.length g1) := S9.box.cell 7
    have y0 : w10.cell? ⟨w5.heap.size, 0, none⟩ = some (.string nm) := S10.box.cell 0
    have y1 : w10.cell? ⟨w5.heap.size, 1, none⟩ = some (.int .i64 (now + 1)) := S10.box.cell 1
    have y2 : w10.cell? ⟨w5.heap.size, 2, none⟩ = some (.bool false) := S10.box.cell 2
    have y3 : w10.cell? ⟨w5.heap.size, 3, none⟩ = some (.int .i64 wd) := S10.box.cell 3
    have y4 : w10.cell? ⟨w5.heap.size, 4, none⟩ = some (.int .i64 room) := S10.box.cell 4
    have y5 : w10.cell? ⟨w5.heap.size, 5, none⟩ = some (.slice a1 its.length c1) := S10.box.cell 5
    have y6 : w10.cell? ⟨w5.heap.size, 6, none⟩ = some (.slice b1 ts.length d1) := S10.box.cell 6
    have y7 : w10.cell? ⟨w5.heap.size, 7, none⟩ = some (.slice (some ⟨gq, 0, none⟩) qs0.length g1) := S10.box.cell 7
    clear hM hMv hMs hb9 hrd9 hlv hlu S9 B9 D10 S10 B10 X10 L10
    go_upto_region 19 with fail
    rw [← hw10]
    clear hw10 hmk b7 z0 z1 z2 z3 z4 z5 z6 z7
    go_wp2_with fail
    refine HN0.out.mono ?_
    rintro e w11 ⟨r0, rfl, hr0, hb11⟩
    rw [HMW.out] at hr0
    have HR0 := hid hr0
    have HS11 := hid (HS10.out.below hb11)
    have HB11 := hid (HB10.out.trans (hb11.mono HB10.out.size))
    have HX11 := hid (HX10.out.below hb11)
    have HL11 : Hid (LkRow w11 (.slice a9 lacks.length c9) lacks) := hid (HL10.out.imp id (fun ⟨Bq, h⟩ => ⟨Bq, Below.row hb11 h⟩))
    clear hr0 hb11 y0 y1 y2 y3 y4 y5 y6 y7
    go_wp2
    go_loopw [4, 9] (fun vm' k' wr2 => ∃ (pre : List Nat) (r : Int) (q : PV) (vm : Value) (cs : Array Value), vm' = vm ∧ k' = .int .i64 r ∧ TurnsTo ps1 pre ∧ NextR (askN (now + 1) lacks ps1 pre).1 pre r ∧ q.map Prod.fst = (askN (now + 1) lacks ps1 pre).1 ∧ SpecAt wr2 (w.heap.size + 1) w5.heap.size w4.heap.size (w.heap.size + 2) nm (now + 1) false wd room (.slice a1 its.length c1) (.slice b1 ts.length d1) gq g1 qs0.length its ts q vm ((askN (now + 1) lacks ps1 pre).2.map msgOf) ∧ Blk wr2 w9.heap.size 4 cs ∧ cs.size = qs0.length ∧ (∀ i, i < qs0.length → cs[i]? = some (.bool (decide (i ∈ pre)))) ∧ LkRow wr2 (.slice a9 lacks.length c9) lacks ∧ Below w.heap.size w wr2) (fun _ _ wr2 => unseen wr2 w9.heap.size qs0.length)
    case atStart => exact ⟨[], r0, qs', _, M, rfl, rfl, TurnsTo.start _, HR0.out, HMW.out, HS11.out, HX11.out, HMS.out, HMV.out, HL11.out, HB11.out⟩
    case round =>
     obtain ⟨pre, r, q, vm, cs, rfl, rfl, hto, hnr, hqm, hS, hX, hcs, hsn, hL, hB⟩ := hrel
     obtain ⟨am, cm, hvm⟩ := row_any hS.msg
     rw [List.length_map] at hvm
     subst hvm
     have HTO := hid hto
     have HNR := hid hnr
     have HQM := hid hqm
     have HS2 := hid hS
     have HX2 := hid hX
     have HCS := hid hcs
     have HSN := hid hsn
     have HL2 := hid hL
     have HBB := hid hB
     by_cases hr : 0 ≤ r
     case neg =>
      have hr1 : r = -1 := by
       rcases hnr with ⟨h, _⟩ | ⟨k, h, _⟩
       ·exact h
       ·omega
      subst hr1
      have HF : Hid (TickR nm now false wd room its ts (qs0.map Prod.fst) nm (now + 1) false wd room its ts (q.map Prod.fst) (askN (now + 1) lacks ps1 pre).2) := hid (.inr ⟨HVAL.out, rfl, rfl, rfl, rfl, rfl, rfl, .inr (.inr ⟨hlt, rfl, rfl, lacks, pre, HLU.out, by rw [← HPS1.out]; exact hto.done hnr, by rw [← HPS1.out]; exact hqm, by rw [← HPS1.out]⟩)⟩)
      clear hto hnr hqm hS hX hcs hsn hL hB
      have c0' : wr.cell? ⟨w5.heap.size, 0, none⟩ = some (.string nm) := HS2.out.box.cell 0
      have c1' : wr.cell? ⟨w5.heap.size, 1, none⟩ = some (.int .i64 (now + 1)) := HS2.out.box.cell 1
      have c2' : wr.cell? ⟨w5.heap.size, 2, none⟩ = some (.bool false) := HS2.out.box.cell 2
      have c3' : wr.cell? ⟨w5.heap.size, 3, none⟩ = some (.int .i64 wd) := HS2.out.box.cell 3
      have c4' : wr.cell? ⟨w5.heap.size, 4, none⟩ = some (.int .i64 room) := HS2.out.box.cell 4
      have c5' : wr.cell? ⟨w5.heap.size, 5, none⟩ = some (.slice a1 its.length c1) := HS2.out.box.cell 5
      have c6' : wr.cell? ⟨w5.heap.size, 6, none⟩ = some (.slice b1 ts.length d1) := HS2.out.box.cell 6
      have c7' : wr.cell? ⟨w5.heap.size, 7, none⟩ = some (.slice (some ⟨gq, 0, none⟩) qs0.length g1) := HS2.out.box.cell 7
      have s := HS2.out.res.store8 (.string nm) (.int .i64 (now + 1)) (.bool false) (.int .i64 wd) (.int .i64 room) (.slice a1 its.length c1) (.slice b1 ts.length d1) (.slice (some ⟨gq, 0, none⟩) qs0.length g1)
      obtain ⟨q0, k0, q1, k1, q2, k2, q3, k3, q4, k4, q5, k5, q6, k6, q7, k7⟩ := s
      have HZ := hid (HS2.out.res.set8 (.string nm) (.int .i64 (now + 1)) (.bool false) (.int .i64 wd) (.int .i64 room) (.slice a1 its.length c1) (.slice b1 ts.length d1) (.slice (some ⟨gq, 0, none⟩) qs0.length g1))
      have BB := hid (below_set8 HBB.out (b := w.heap.size + 1) (by omega) (Nat.le_refl _) (.string nm) (.int .i64 (now + 1)) (.bool false) (.int .i64 wd) (.int .i64 room) (.slice a1 its.length c1) (.slice b1 ts.length d1) (.slice (some ⟨gq, 0, none⟩) qs0.length g1))
      have G8 := grown_set8 wr (w.heap.size + 1) (.string nm) (.int .i64 (now + 1)) (.bool false) (.int .i64 wd) (.int .i64 room) (.slice a1 its.length c1) (.slice b1 ts.length d1) (.slice (some ⟨gq, 0, none⟩) qs0.length g1)
      have FOR := HS2.out.own.kept G8 (by omega)
      have MOR : MsgOwn (set8 wr (w.heap.size + 1) (.string nm) (.int .i64 (now + 1)) (.bool false) (.int .i64 wd) (.int .i64 room) (.slice a1 its.length c1) (.slice b1 ts.length d1) (.slice (some ⟨gq, 0, none⟩) qs0.length g1)) (w.heap.size + 2) (.slice am (askN (now + 1) lacks ps1 pre).2.length cm) ((askN (now + 1) lacks ps1 pre).2.map msgOf) := row_far HS2.out.msg G8 (fun e => by have := (World.ownsRow.lt HS2.out.msg _ e).1; omega)
      have HQ8 : Hid (TickQ nm now false wd room its ts (qs0.map Prod.fst) w (.returned (.tuple #[fval nm (now + 1) false wd room (.slice a1 its.length c1) (.slice b1 ts.length d1) (.slice (some ⟨gq, 0, none⟩) qs0.length g1), (.slice am (askN (now + 1) lacks ps1 pre).2.length cm)])) (set8 wr (w.heap.size + 1) (.string nm) (.int .i64 (now + 1)) (.bool false) (.int .i64 wd) (.int .i64 room) (.slice a1 its.length c1) (.slice b1 ts.length d1) (.slice (some ⟨gq, 0, none⟩) qs0.length g1))) := hid ⟨nm, (now + 1), false, wd, room, its, ts, q, _, _, _, _, (askN (now + 1) lacks ps1 pre).2, rfl, HF.out, FOR.base (show w.heap.size + 2 ≤ w4.heap.size by omega), MOR, fetch_msg FOR MOR, BB.out⟩
      clear G8 FOR MOR
      go_wp2
      rw [set8_def]
      exact bodyPost_ret (v := .tuple #[fval nm (now + 1) false wd room (.slice a1 its.length c1) (.slice b1 ts.length d1) (.slice (some ⟨gq, 0, none⟩) qs0.length g1), (.slice am (askN (now + 1) lacks ps1 pre).2.length cm)]) (by simp [results, Tryz.results5, go_sem, HZ.out.cell]) rfl HQ8.out
     obtain ⟨k, rfl⟩ : ∃ k : Nat, r = (k : Int) := ⟨r.toNat, by omega⟩
     obtain ⟨hto2, hk, hkp, hkw⟩ := hto.step hnr
     rw [hpl] at hk
     have hSL := hS.len
     have hkq : k < q.length := by omega
     have hql9 := hX.lt
     -- seen[k] = true
     have sk : wr.cell? ⟨w9.heap.size, k, none⟩ = some (.bool false) := (hX.cell k).trans ((hsn k hk).trans (by rw [decide_eq_false hkp]))
     have sf := hX.fz k
     have X3 : Blk (wr.setCell ⟨w9.heap.size, k, none⟩ (.bool true)) w9.heap.size 4 (cs.setIfInBounds k (.bool true)) := hX.set k (.bool true)
     have G3 := grownBy_setCellAt wr w9.heap.size k (.bool true)
     have S3 := hS.far hX (by decide) (by decide) (by decide) (by decide) (by decide) G3
     have L3 : LkRow (wr.setCell ⟨w9.heap.size, k, none⟩ (.bool true)) (.slice a9 lacks.length c9) lacks := hL.imp id (fun ⟨Bq, h⟩ => ⟨Bq, row_far h G3 (fun e => row_off_blk h hX (by decide) e)⟩)
     have B3 : Below w.heap.size w (wr.setCell ⟨w9.heap.size, k, none⟩ (.bool true)) := hB.grown G3 hB.size (fun g e => by cases e; omega)
     have hsn3 : ∀ i, i < qs0.length → (cs.setIfInBounds k (.bool true))[i]? = some (.bool (decide (i ∈ pre ++ [k]))) := fun i hi => by
      rw [Array.getElem?_setIfInBounds]
      by_cases e : k = i
      ·subst e
       rw [if_pos rfl, if_pos (by omega), decide_eq_true (by simp)]
      ·rw [if_neg e, hsn i hi]
       have e' : i ≠ k := fun h => e h.symm
       simp [e']
     have HU3 : Hid (∀ (W' : World) (cs' : Array Value), Blk W' w9.heap.size 4 cs' → (∀ i, i < qs0.length → cs'[i]? = some (.bool (decide (i ∈ pre ++ [k])))) → unseen W' w9.heap.size qs0.length < unseen wr w9.heap.size qs0.length) := hid fun W' cs' hX' hc' => unseen_less (fun i hi => (HX2.out.cell i).trans (HSN.out i hi)) (fun i hi => (hX'.cell i).trans (hc' i hi)) hkp hk
     have HC3 := hid (HCHO.out _ q _ _ k S3 L3 hk (fun i hi => by rw [← pat_fst1, hqm]; exact HPRW.out pre i hi))
     rw [hqm] at HC3
     obtain ⟨w3', hw3'⟩ : ∃ x, x = wr.setCell ⟨w9.heap.size, k, none⟩ (.bool true) := ⟨_, rfl⟩
     rw [← hw3'] at S3 L3 B3 X3 HC3
     have HS3 := hid S3
     have HL3 := hid L3
     have HB3 := hid B3
     have HX3 := hid X3
     have HSN3 := hid hsn3
     have HCS3 : Hid ((cs.setIfInBounds k (.bool true)).size = qs0.length) := hid (by rw [Array.size_setIfInBounds]; exact hcs)
     have HTO2 := hid hto2
     have HKW := hid hkw
     have y0 : w3'.cell? ⟨w5.heap.size, 0, none⟩ = some (.string nm) := S3.box.cell 0
     have y1 : w3'.cell? ⟨w5.heap.size, 1, none⟩ = some (.int .i64 (now + 1)) := S3.box.cell 1
     have y2 : w3'.cell? ⟨w5.heap.size, 2, none⟩ = some (.bool false) := S3.box.cell 2
     have y3 : w3'.cell? ⟨w5.heap.size, 3, none⟩ = some (.int .i64 wd) := S3.box.cell 3
     have y4 : w3'.cell? ⟨w5.heap.size, 4, none⟩ = some (.int .i64 room) := S3.box.cell 4
     have y5 : w3'.cell? ⟨w5.heap.size, 5, none⟩ = some (.slice a1 its.length c1) := S3.box.cell 5
     have y6 : w3'.cell? ⟨w5.heap.size, 6, none⟩ = some (.slice b1 ts.length d1) := S3.box.cell 6
     have y7 : w3'.cell? ⟨w5.heap.size, 7, none⟩ = some (.slice (some ⟨gq, 0, none⟩) qs0.length g1) := S3.box.cell 7
     clear hto hnr hqm hS hX hcs hsn hL hB X3 G3 S3 L3 B3 hsn3 hto2 hkw
     go_upto_region 23 with fail
     rw [← hw3']
     clear hw3' sk sf
     go_wp2_with fail
     refine HC3.out.mono ?_
     rintro e w4' ⟨s, rfl, hch, hb4'⟩
     have S4 := HS3.out.below hb4'
     have X4 := HX3.out.below hb4'
     have L4 : LkRow w4' (.slice a9 lacks.length c9) lacks := HL3.out.imp id (fun ⟨Bq, h⟩ => ⟨Bq, Below.row hb4' h⟩)
     have B4 := HB3.out.trans (hb4'.mono HB3.out.size)
     have HS4 := hid S4
     have HX4 := hid X4
     have HL4 := hid L4
     have HB4 := hid B4
     clear y0 y1 y2 y3 y4 y5 y6 y7
     have hstep := askN_snoc (now + 1) lacks ps1 pre k
     rcases hch with ⟨hno, hs0⟩ | hyes
     ·subst hs0
      have hsame : (askN (now + 1) lacks ps1 (pre ++ [k])) = (askN (now + 1) lacks ps1 pre) := by
       rw [hstep]
       unfold askS
       rw [hno]
      have HSM := hid hsame
      have HN4 := hid (HNEXT.out w4' q _ _ (pre ++ [k]) _ S4 X4 HSN3.out)
      have e0 : ((⟨#[]⟩ : ByteArray).toList != (⟨#[]⟩ : ByteArray).toList) = false := by simp
      have y0 : w4'.cell? ⟨w5.heap.size, 0, none⟩ = some (.string nm) := S4.box.cell 0
      have y1 : w4'.cell? ⟨w5.heap.size, 1, none⟩ = some (.int .i64 (now + 1)) := S4.box.cell 1
      have y2 : w4'.cell? ⟨w5.heap.size, 2, none⟩ = some (.bool false) := S4.box.cell 2
      have y3 : w4'.cell? ⟨w5.heap.size, 3, none⟩ = some (.int .i64 wd) := S4.box.cell 3
      have y4 : w4'.cell? ⟨w5.heap.size, 4, none⟩ = some (.int .i64 room) := S4.box.cell 4
      have y5 : w4'.cell? ⟨w5.heap.size, 5, none⟩ = some (.slice a1 its.length c1) := S4.box.cell 5
      have y6 : w4'.cell? ⟨w5.heap.size, 6, none⟩ = some (.slice b1 ts.length d1) := S4.box.cell 6
      have y7 : w4'.cell? ⟨w5.heap.size, 7, none⟩ = some (.slice (some ⟨gq, 0, none⟩) qs0.length g1) := S4.box.cell 7
      clear hno hsame hstep S4 X4 L4 B4 hb4'
      go_wp2_with fail
      refine HN4.out.mono ?_
      rintro e w5' ⟨r5, rfl, hr5, hb5'⟩
      rw [HQM.out] at hr5
      have HR5 := hid hr5
      have HS5 := hid (HS4.out.below hb5')
      have X5 := HX4.out.below hb5'
      have HX5 := hid X5
      have HL5 : Hid (LkRow w5' (.slice a9 lacks.length c9) lacks) := hid (HL4.out.imp id (fun ⟨Bq, h⟩ => ⟨Bq, Below.row hb5' h⟩))
      have HB5 := hid (HB4.out.trans (hb5'.mono HB4.out.size))
      have HU5 := hid (HU3.out w5' _ X5 HSN3.out)
      clear hr5 hb5' X5 y0 y1 y2 y3 y4 y5 y6 y7
      go_wp2
      refine ⟨⟨pre ++ [k], r5, q, _, _, rfl, rfl, HTO2.out, ?_, ?_, ?_, HX5.out, HCS3.out, HSN3.out, HL5.out, HB5.out⟩, HU5.out⟩
      ·rw [HSM.out]; exact HR5.out
      ·rw [HSM.out]; exact HQM.out
      ·rw [HSM.out]; exact HS5.out
     ·have hmem := choice_mem hyes
      have hssz := HLS.out s hmem
      have hw8 : 1 ≤ wd ∧ wd ≤ 8 := by have := HVAL.out.store.width; simpa [isW] using this
      have e0d : ¬ s.toList = [] := by
       intro e
       rw [ByteArray.toList_eq] at e
       have h1 : s.data.size = 0 := by rw [← Array.length_toList, e]; rfl
       have h2 : (s.size : Int) = wd := hssz
       have h3 : s.size = s.data.size := rfl
       omega
      have e0b : (s.toList == []) = false := by
       cases e : (s.toList == []) with
       | false => rfl
       | true => exact absurd (by simpa using e) e0d
      have e0a : (s.toList != []) = true := by rw [bne, e0b]; rfl
      have hnext : (askN (now + 1) lacks ps1 (pre ++ [k])) = ((askN (now + 1) lacks ps1 pre).1.set k (askP (pat (askN (now + 1) lacks ps1 pre).1 k) (now + 1) s), (askN (now + 1) lacks ps1 pre).2 ++ [(k, s)]) := by
       rw [hstep]
       unfold askS
       rw [hyes]
      have HNXT := hid hnext
      have hqk : qp q k = pat (askN (now + 1) lacks ps1 pre).1 k := by rw [← HQM.out, pat_fst1]
      have HQK := hid hqk
      have hso : (askN (now + 1) lacks ps1 pre).2.length ≤ 5 := by
       have h1 := askN_out (now + 1) lacks ps1 pre
       have h2 := few_nats qs0.length pre (HTO.out.asc.imp fun h e => by subst e; exact h.asym h) (fun i hi => by have := (HTO.out.ok i hi).1; omega)
       omega
      obtain ⟨so, hsoe⟩ : ∃ x, x = (askN (now + 1) lacks ps1 pre).2 := ⟨_, rfl⟩
      have HSO := hid hsoe
      rw [← hsoe] at hso HS4 S4 ⊢
      clear hyes hmem hstep hnext hqk hsoe
      -- Asked, Wait, Last
      have R4 := S4.own.peers.row
      have hSL4 := S4.len
      rw [hSL4] at R4
      have q5 := cellsQ_at q k hkq
      have hcl := cellsQ_len q
      have e3 : w4'.cell? ⟨gq, k * 5 + 3, none⟩ = some (.string (qp q k).asked) := (R4.cellAt _ (by omega)).trans q5.c3
      have f3 := R4.frozenAt (k * 5 + 3)
      have r5 := (R4.stored (k * 5 + 3) (.string s)).1
      rw [cellsQ_putA q k s hkq] at r5
      have S5 := S4.peer hkq (p' := ⟨(qp q k).lies, (qp q k).wait, (qp q k).last, s, (qp q k).nots⟩) rfl (grownBy_setCellAt w4' gq (k * 5 + 3) (.string s)) (by rw [hSL4]; exact r5)
      obtain ⟨qa, hqa⟩ : ∃ x, x = q.set k (⟨(qp q k).lies, (qp q k).wait, (qp q k).last, s, (qp q k).nots⟩, qv q k) := ⟨_, rfl⟩
      rw [← hqa] at S5
      have hla := S5.len
      have hpa : qp qa k = ⟨(qp q k).lies, (qp q k).wait, (qp q k).last, s, (qp q k).nots⟩ := by rw [hqa, qp_put q k k _ hkq, if_pos rfl]
      have R5 := S5.own.peers.row
      rw [hla] at R5
      have q6 := cellsQ_at qa k (by omega)
      rw [hpa] at q6
      have hcla := cellsQ_len qa
      have e1 : (w4'.setCell ⟨gq, k * 5 + 3, none⟩ (.string s)).cell? ⟨gq, k * 5 + 1, none⟩ = some (.int .i64 (qp q k).wait) := (R5.cellAt _ (by omega)).trans q6.c1
      have f1 := R5.frozenAt (k * 5 + 1)
      have r6 := (R5.stored (k * 5 + 1) (.int .i64 5)).1
      rw [cellsQ_putW qa k 5 (by omega)] at r6
      have S6 := S5.peer (i := k) (by omega) (p' := ⟨(qp qa k).lies, 5, (qp qa k).last, (qp qa k).asked, (qp qa k).nots⟩) rfl (grownBy_setCellAt (w4'.setCell ⟨gq, k * 5 + 3, none⟩ (.string s)) gq (k * 5 + 1) (.int .i64 5)) (by rw [hla]; exact r6)
      obtain ⟨qb, hqb⟩ : ∃ x, x = qa.set k (⟨(qp qa k).lies, 5, (qp qa k).last, (qp qa k).asked, (qp qa k).nots⟩, qv qa k) := ⟨_, rfl⟩
      rw [← hqb] at S6
      have hlb := S6.len
      have hpb : qp qb k = ⟨(qp q k).lies, 5, (qp q k).last, s, (qp q k).nots⟩ := by rw [hqb, qp_put qa k k _ (by omega), if_pos rfl, hpa]
      have R6 := S6.own.peers.row
      rw [hlb] at R6
      have q7 := cellsQ_at qb k (by omega)
      rw [hpb] at q7
      have hclb := cellsQ_len qb
      have e2 : ((w4'.setCell ⟨gq, k * 5 + 3, none⟩ (.string s)).setCell ⟨gq, k * 5 + 1, none⟩ (.int .i64 5)).cell? ⟨gq, k * 5 + 2, none⟩ = some (.int .i64 (qp q k).last) := (R6.cellAt _ (by omega)).trans q7.c2
      have f2 := R6.frozenAt (k * 5 + 2)
      have r7 := (R6.stored (k * 5 + 2) (.int .i64 (now + 1))).1
      rw [cellsQ_putL qb k (now + 1) (by omega)] at r7
      have S7 := S6.peer (i := k) (by omega) (p' := ⟨(qp qb k).lies, (qp qb k).wait, now + 1, (qp qb k).asked, (qp qb k).nots⟩) rfl (grownBy_setCellAt ((w4'.setCell ⟨gq, k * 5 + 3, none⟩ (.string s)).setCell ⟨gq, k * 5 + 1, none⟩ (.int .i64 5)) gq (k * 5 + 2) (.int .i64 (now + 1))) (by rw [hlb]; exact r7)
      obtain ⟨qc, hqc⟩ : ∃ x, x = qb.set k (⟨(qp qb k).lies, (qp qb k).wait, now + 1, (qp qb k).asked, (qp qb k).nots⟩, qv qb k) := ⟨_, rfl⟩
      rw [← hqc] at S7
      have hqcm : qc.map Prod.fst = (askN (now + 1) lacks ps1 pre).1.set k (askP (pat (askN (now + 1) lacks ps1 pre).1 k) (now + 1) s) := by
       have hv : qc = q.set k (⟨(qp q k).lies, 5, now + 1, s, (qp q k).nots⟩, qv q k) := by
        have hva : qv qa k = qv q k := by rw [hqa, qv_put q k k _ hkq, if_pos rfl]
        have hvb : qv qb k = qv q k := by rw [hqb, qv_put qa k k _ (by omega), if_pos rfl, hva]
        rw [hqc, hpb, hvb, hqb, List.set_set, hqa, List.set_set]
       rw [hv, fst_set, HQM.out, ← HQK.out]
       rfl
      have G7 := grown_same (grown_same (grownBy_setCellAt w4' gq (k * 5 + 3) (.string s)) (grownBy_setCellAt _ gq (k * 5 + 1) (.int .i64 5))) (grownBy_setCellAt _ gq (k * 5 + 2) (.int .i64 (now + 1)))
      have B7 := HB4.out.grown G7 HB4.out.size (fun g e => by cases e; omega)
      have X7 := HX4.out.kept G7 (fun e => row_off_blk S4.own.peers.row HX4.out (by decide) (by rw [Option.some.inj e]; rfl))
      have L7 : LkRow (((w4'.setCell ⟨gq, k * 5 + 3, none⟩ (.string s)).setCell ⟨gq, k * 5 + 1, none⟩ (.int .i64 5)).setCell ⟨gq, k * 5 + 2, none⟩ (.int .i64 (now + 1))) (.slice a9 lacks.length c9) lacks := HL4.out.imp id (fun ⟨Bq, h⟩ => ⟨Bq, row_far h G7 (fun e => rows_off h S4.own.peers.row (by decide) e rfl)⟩)
      have t7 : w4'.cell? ⟨w5.heap.size, 7, none⟩ = some (.slice (some ⟨gq, 0, none⟩) qs0.length g1) := S4.box.cell 7
      have t7a : (w4'.setCell ⟨gq, k * 5 + 3, none⟩ (.string s)).cell? ⟨w5.heap.size, 7, none⟩ = some (.slice (some ⟨gq, 0, none⟩) qs0.length g1) := S5.box.cell 7
      have t7b : ((w4'.setCell ⟨gq, k * 5 + 3, none⟩ (.string s)).setCell ⟨gq, k * 5 + 1, none⟩ (.int .i64 5)).cell? ⟨w5.heap.size, 7, none⟩ = some (.slice (some ⟨gq, 0, none⟩) qs0.length g1) := S6.box.cell 7
      have t1b : ((w4'.setCell ⟨gq, k * 5 + 3, none⟩ (.string s)).setCell ⟨gq, k * 5 + 1, none⟩ (.int .i64 5)).cell? ⟨w5.heap.size, 1, none⟩ = some (.int .i64 (now + 1)) := S6.box.cell 1
      obtain ⟨w7', hw7'⟩ : ∃ x, x = ((w4'.setCell ⟨gq, k * 5 + 3, none⟩ (.string s)).setCell ⟨gq, k * 5 + 1, none⟩ (.int .i64 5)).setCell ⟨gq, k * 5 + 2, none⟩ (.int .i64 (now + 1)) := ⟨_, rfl⟩
      rw [← hw7'] at S7 B7 X7 L7
      have HS7 := hid S7
      have HB7 := hid B7
      have HX7 := hid X7
      have HL7 := hid L7
      have HQCM := hid hqcm
      have hown := S7.msg
      unfold MsgOwn at hown
      rw [List.length_map] at hown
      have hs7 := B7.size
      have hlc := S7.len
      have hwk : IntKind.i64.wrap ((k : Int) + 1) = ((k + 1 : Nat) : Int) := by rw [IntKind.wrap_i64]; omega
      have hwm : w.heap.size + 2 ≤ w7'.heap.size := by have h1 := S7.res.lt; have h2 := S7.own.peers.row; have h3 := (h2.lt gq rfl); omega
      clear S4 X4 L4 B4 hb4' R4 q5 r5 S5 R5 q6 r6 S6 R6 q7 r7 S7 B7 X7 L7 G7 hqcm hqa hqb hqc hpa hpb
      go_upto_region 28 with fail
      rw [← hw7']
      clear hw7' e3 f3 e1 f1 e2 f2 t7 t7a t7b t1b
      obtain ⟨x, hx⟩ : ∃ x, x = ((k + 1 : Nat) : Int) := ⟨_, rfl⟩
      rw [← hx] at hwk
      have HX := hid hx
      clear hx
      go_wp2_with (at_builtin; refine wpList_append_own _ rfl _ _ 36 rfl (w.heap.size + 2) 56 i0 (.agg #[.int .i64 0, .int .i64 0, .string ⟨#[]⟩, .bool false, .string ⟨#[]⟩]) 5 56 Tryz.underlying36 hi0 hz0 hz1 hz2 rfl (by decide) (.slice am so.length cm) so.length (cellsG (so.map msgOf)) rfl (hown.alloc _) ⟨_, 0, none⟩ 1 1 [.int .i64 0, .int .i64 x, .string s, .bool false, .string ⟨#[]⟩] rfl rfl (five_new _ _ _ _ _ _ _) (by simp [Value.oneCell']) (by unfold maxLen; omega) (by omega) (by simp; omega) ?_; intro v' w8' hown' hgrow _; have S8 := HS7.out.send (q := msgOf (k, s)) hgrow (by rw [List.length_map]; show w8'.ownsRow _ _ _ _ _ (_ ++ [.int .i64 0, .int .i64 ((k + 1 : Nat) : Int), .string s, .bool false, .string ⟨#[]⟩]); rw [← HX.out]; exact hown'); have y0 : w8'.cell? ⟨w5.heap.size, 0, none⟩ = some (.string nm) := S8.box.cell 0; have y1 : w8'.cell? ⟨w5.heap.size, 1, none⟩ = some (.int .i64 (now + 1)) := S8.box.cell 1; have y2 : w8'.cell? ⟨w5.heap.size, 2, none⟩ = some (.bool false) := S8.box.cell 2; have y3 : w8'.cell? ⟨w5.heap.size, 3, none⟩ = some (.int .i64 wd) := S8.box.cell 3; have y4 : w8'.cell? ⟨w5.heap.size, 4, none⟩ = some (.int .i64 room) := S8.box.cell 4; have y5 : w8'.cell? ⟨w5.heap.size, 5, none⟩ = some (.slice a1 its.length c1) := S8.box.cell 5; have y6 : w8'.cell? ⟨w5.heap.size, 6, none⟩ = some (.slice b1 ts.length d1) := S8.box.cell 6; have y7 : w8'.cell? ⟨w5.heap.size, 7, none⟩ = some (.slice (some ⟨gq, 0, none⟩) qs0.length g1) := S8.box.cell 7)
      have D8 : Below w7'.heap.size w7' (w7'.alloc (.cells #[.int .i64 0, .int .i64 x, .string s, .bool false, .string ⟨#[]⟩] 56)) := (Below.refl _ _).alloc (Nat.le_refl _) _
      have T8 : But (fun b => (Value.slice am so.length cm).ownBlock = some b) (w7'.alloc (.cells #[.int .i64 0, .int .i64 x, .string s, .bool false, .string ⟨#[]⟩] 56)) w8' := ⟨hgrow.os, hgrow.tape, hgrow.output, hgrow.size, fun k hk hn => hgrow.block k hk (fun e => hn e.symm)⟩
      have B8 := (HB7.out.trans (D8.mono HB7.out.size)).trans (T8.below (B := w.heap.size) (by rw [World.size_alloc]; omega) (fun b e => by have := (hown.lt b e).1; omega))
      have X8 := T8.blk (HX7.out.below D8) (fun e => row_off_blk (hown.alloc (.cells #[.int .i64 0, .int .i64 x, .string s, .bool false, .string ⟨#[]⟩] 56)) (HX7.out.below D8) (by decide) e)
      have L8 : LkRow w8' (.slice a9 lacks.length c9) lacks := HL7.out.imp id (fun ⟨Bq, h⟩ => ⟨Bq, T8.row (Below.row D8 h) (fun g e h2 => rows_off (hown.alloc (.cells #[.int .i64 0, .int .i64 x, .string s, .bool false, .string ⟨#[]⟩] 56)) (Below.row D8 h) (by decide) h2 e)⟩)
      have HN8 := hid (HNEXT.out w8' qc _ _ (pre ++ [k]) _ S8 X8 HSN3.out)
      obtain ⟨am', cm', hvm'⟩ := row_any hown'
      subst hvm'
      have HS8 := hid S8
      have HX8 := hid X8
      have HL8 := hid L8
      have HB8 := hid B8
      clear S8 D8 T8 B8 X8 L8 hown hown' hgrow
      go_wp2_with fail
      refine HN8.out.mono ?_
      rintro e w10' ⟨r5, rfl, hr5, hb5'⟩
      rw [HQCM.out] at hr5
      have HR5 := hid hr5
      have HS5 := hid (HS8.out.below hb5')
      have X5 := HX8.out.below hb5'
      have HX5 := hid X5
      have HL5 : Hid (LkRow w10' (.slice a9 lacks.length c9) lacks) := hid (HL8.out.imp id (fun ⟨Bq, h⟩ => ⟨Bq, Below.row hb5' h⟩))
      have HB5 := hid (HB8.out.trans (hb5'.mono HB8.out.size))
      have HU5 := hid (HU3.out w10' _ X5 HSN3.out)
      clear hr5 hb5' X5 y0 y1 y2 y3 y4 y5 y6 y7
      go_wp2
      refine ⟨⟨pre ++ [k], r5, qc, _, _, rfl, rfl, HTO2.out, ?_, ?_, ?_, HX5.out, HCS3.out, HSN3.out, HL5.out, HB5.out⟩, HU5.out⟩
      ·rw [HNXT.out]; exact HR5.out
      ·rw [HNXT.out]; exact HQCM.out
      ·rw [HNXT.out]
       show SpecAt _ _ _ _ _ _ _ _ _ _ _ _ _ _ _ _ _ _ _ (((askN (now + 1) lacks ps1 pre).2 ++ [(k, s)]).map msgOf)
       rw [List.map_append, ← HSO.out]
       exact HS5.out
  have hkq : k < qs'.length := by omega
  have hpk : qp qs' k = qp qs1 k := by rw [HQP.out k hkn, if_neg (by omega)]
  have hw5 := (HW.out k hkn).wait
  have q5 := cellsQ_at qs' k hkq
  have R1 := hsp.own.peers.row
  rw [hql] at R1
  have hcl := cellsQ_len qs'
  obtain ⟨pw, hpw⟩ : ∃ z, z = (qp qs' k).wait := ⟨_, rfl⟩
  have e1 : wr.cell? ⟨gq, k * 5 + 1, none⟩ = some (.int .i64 pw) := by rw [hpw]; exact (R1.cellAt _ (by omega)).trans q5.c1
  have f1 := R1.frozenAt (k * 5 + 1)
  rw [← hpk, ← hpw] at hw5
  have HPW := hid hpw
  have HPK := hid hpk
  clear hqp hsp hbw hpw hpk
  by_cases h0 : 0 < pw
  case neg =>
   have HQ1 : Hid (∀ j, j < qs0.length → qp qs' j = if j < k + 1 then waitP (qp qs1 j) else qp qs1 j) := hid fun j hj => by
    rw [HQP.out j hj]
    by_cases e : j = k
    ·subst e
     rw [if_neg (by omega), if_pos (by omega)]
     have : (qp qs1 j).wait = 0 := by rw [← HPK.out, ← HPW.out]; omega
     unfold waitP
     rw [if_pos this]
    ·by_cases e2 : j < k
     ·rw [if_pos e2, if_pos (by omega)]
     ·rw [if_neg e2, if_neg (by omega)]
   clear q5 R1 f1
   go_wp2
   refine ⟨⟨k + 1, qs', by omega, by go_simp, HQ1.out, HSR.out, HBR.out⟩, ?_⟩
   simp [intOf]
   omega
  have hwp : IntKind.i64.wrap (pw - 1) = pw - 1 := by rw [IntKind.wrap_i64]; omega
  have r2 := (R1.stored (k * 5 + 1) (.int .i64 (pw - 1))).1
  rw [cellsQ_putW qs' k (pw - 1) hkq] at r2
  have G2 := grownBy_setCellAt wr gq (k * 5 + 1) (.int .i64 (pw - 1))
  have S2 := HSR.out.peer hkq (p' := ⟨(qp qs' k).lies, pw - 1, (qp qs' k).last, (qp qs' k).asked, (qp qs' k).nots⟩) rfl G2 (by rw [hql]; exact r2)
  have B2 : Below w.heap.size w (wr.setCell ⟨gq, k * 5 + 1, none⟩ (.int .i64 (pw - 1))) := HBR.out.grown G2 HBR.out.size (fun g e => by cases e; omega)
  obtain ⟨qs2, hqs2⟩ : ∃ q, q = qs'.set k (⟨(qp qs' k).lies, pw - 1, (qp qs' k).last, (qp qs' k).asked, (qp qs' k).nots⟩, qv qs' k) := ⟨_, rfl⟩
  have D3 : Below (wr.setCell ⟨gq, k * 5 + 1, none⟩ (.int .i64 (pw - 1))).heap.size (wr.setCell ⟨gq, k * 5 + 1, none⟩ (.int .i64 (pw - 1))) (wr.setCell ⟨gq, k * 5 + 1, none⟩ (.int .i64 (pw - 1))).drew := below_drewN (Below.refl _ _) 1
  rw [← hqs2] at S2 r2
  have S3 := S2.below D3
  have B3 := B2.trans (D3.mono B2.size)
  have hq2l : qs2.length = qs0.length := S3.len
  have q52 := cellsQ_at qs2 k (by omega)
  have hcl2 := cellsQ_len qs2
  have hp2 : qp qs2 k = ⟨(qp qs' k).lies, pw - 1, (qp qs' k).last, (qp qs' k).asked, (qp qs' k).nots⟩ := by rw [hqs2, qp_put qs' k k _ hkq, if_pos rfl]
  rw [hp2] at q52
  have R3 := S3.own.peers.row
  rw [hq2l] at R3
  have d7 : (wr.setCell ⟨gq, k * 5 + 1, none⟩ (.int .i64 (pw - 1))).drew.cell? ⟨w5.heap.size, 7, none⟩ = some (.slice (some ⟨gq, 0, none⟩) qs0.length g1) := S3.box.cell 7
  have d1 : (wr.setCell ⟨gq, k * 5 + 1, none⟩ (.int .i64 (pw - 1))).drew.cell? ⟨gq, k * 5 + 1, none⟩ = some (.int .i64 (pw - 1)) := (R3.cellAt _ (by omega)).trans q52.c1
  have d3 : (wr.setCell ⟨gq, k * 5 + 1, none⟩ (.int .i64 (pw - 1))).drew.cell? ⟨gq, k * 5 + 3, none⟩ = some (.string (qp qs' k).asked) := (R3.cellAt _ (by omega)).trans q52.c3
  have g3 := R3.frozenAt (k * 5 + 3)
  have HS3 := hid S3
  have HB3 := hid B3
  have HP2 := hid hp2
  have HQ2 : Hid (∀ j, j < qs0.length → j ≠ k → qp qs2 j = qp qs' j) := hid fun j hj e => by rw [hqs2, qp_put qs' k j _ hkq, if_neg e]
  clear q5 R1 r2 G2 S2 B2 D3 S3 B3 q52 hp2 R3
  go_wp2_with fail
  go_region
  clear hqs2 e1 f1 c7
  by_cases h1 : pw = 1
  ·have e0 : (pw - 1 == 0) = true := by rw [h1]; rfl
   have R9 := HS3.out.own.peers.row
   rw [hq2l] at R9
   have r4 := (R9.stored (k * 5 + 3) (.string ⟨#[]⟩)).1
   rw [cellsQ_putA qs2 k ⟨#[]⟩ (by omega)] at r4
   have G4 := grownBy_setCellAt (wr.setCell ⟨gq, k * 5 + 1, none⟩ (.int .i64 (pw - 1))).drew gq (k * 5 + 3) (.string ⟨#[]⟩)
   have HS4 := hid (HS3.out.peer (i := k) (p' := ⟨(qp qs2 k).lies, (qp qs2 k).wait, (qp qs2 k).last, ⟨#[]⟩, (qp qs2 k).nots⟩) (by omega) rfl G4 (by rw [hq2l]; exact r4))
   have HB4 := hid (HB3.out.grown G4 HB3.out.size (fun g e => by cases e; omega))
   have HQ1 : Hid (∀ j, j < qs0.length → qp (qs2.set k (⟨(qp qs2 k).lies, (qp qs2 k).wait, (qp qs2 k).last, ⟨#[]⟩, (qp qs2 k).nots⟩, qv qs2 k)) j = if j < k + 1 then waitP (qp qs1 j) else qp qs1 j) := hid fun j hj => by
    rw [qp_put qs2 k j _ (by omega)]
    by_cases e : j = k
    ·subst e
     rw [if_pos rfl, if_pos (by omega), HP2.out, ← HPK.out]
     unfold waitP
     have h2 : (qp qs' j).wait = 1 := by rw [← HPW.out]; exact h1
     rw [if_neg (by omega), if_pos h2, h1]
     rfl
    ·rw [if_neg e, HQ2.out j hj e, HQP.out j hj]
     by_cases e2 : j < k
     ·rw [if_pos e2, if_pos (by omega)]
     ·rw [if_neg e2, if_neg (by omega)]
   clear R9 r4 G4 h1
   go_wp2
   refine ⟨⟨k + 1, _, by omega, by go_simp, HQ1.out, HS4.out, HB4.out⟩, ?_⟩
   simp [intOf]
   omega
  ·have e0 : (pw - 1 == 0) = false := by
    cases e : (pw - 1 == 0) with
    | false => rfl
    | true => rw [beq_iff_eq] at e; omega
   have HQ1 : Hid (∀ j, j < qs0.length → qp qs2 j = if j < k + 1 then waitP (qp qs1 j) else qp qs1 j) := hid fun j hj => by
    by_cases e : j = k
    ·subst e
     rw [if_pos (by omega), HP2.out, ← HPK.out]
     unfold waitP
     rw [if_neg (by rw [← HPW.out]; omega), if_neg (by rw [← HPW.out]; exact h1), HPW.out]
    ·rw [HQ2.out j hj e, HQP.out j hj]
     by_cases e2 : j < k
     ·rw [if_pos e2, if_pos (by omega)]
     ·rw [if_neg e2, if_neg (by omega)]
   clear h1
   go_wp2
   refine ⟨⟨k + 1, qs2, by omega, by go_simp, HQ1.out, HS3.out, HB3.out⟩, ?_⟩
   simp [intOf]
   omega
end Go.Proofs.YtkghbegdjeehaaaGreatDoor
