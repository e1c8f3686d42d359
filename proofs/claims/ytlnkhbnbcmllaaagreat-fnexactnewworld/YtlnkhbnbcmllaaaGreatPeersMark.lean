/- Peers in rows of their own; laws.markPeerS and laws.heldPeerS. -/
import Derived.Test.YtlnkhbnbcmllaaaGreatPeers
import Derived.Test.YtlnkhbnbcmllaaaGreatGetLaw
namespace Go.Proofs.YtlnkhbnbcmllaaaGreat
open Go.RowKit
/-- A world in which only the blocks told by T, and new ones, have turned. -/
structure Kept (w w' : World) (T : Nat → Prop) : Prop where
  os : w'.os = w.os
  tape : w'.tape = w.tape
  output : w'.output = w.output
  size : w.heap.size ≤ w'.heap.size
  block : ∀ k, k < w.heap.size → ¬ T k → w'.heap[k]? = w.heap[k]?
theorem Kept.refl (w : World) (T : Nat → Prop) : Kept w w T := ⟨rfl, rfl, rfl, Nat.le_refl _, fun _ _ _ => rfl⟩
theorem Kept.trans {a b c : World} {T : Nat → Prop} (h : Kept a b T) (k : Kept b c T) : Kept a c T :=
  ⟨k.os.trans h.os, k.tape.trans h.tape, k.output.trans h.output, Nat.le_trans h.size k.size, fun n hn ht => (k.block n (Nat.lt_of_lt_of_le hn h.size) ht).trans (h.block n hn ht)⟩
theorem Kept.of_grown {a b : World} {o : Option Nat} {T : Nat → Prop} (h : a.grownBy b o) (ho : ∀ g, o = some g → T g) : Kept a b T :=
  ⟨h.os, h.tape, h.output, h.size, fun k hk ht => h.block k hk (fun e => ht (ho k e.symm))⟩
theorem Kept.of_below {a b : World} {T : Nat → Prop} (h : Below a.heap.size a b) : Kept a b T := ⟨h.os, h.tape, h.output, h.size, fun k hk _ => h.block k hk⟩
theorem Kept.below {a b : World} {T : Nat → Prop} {B : Nat} (h : Kept a b T) (ht : ∀ g, T g → B ≤ g) (hB : B ≤ a.heap.size) : Below B a b :=
  ⟨h.os, h.tape, h.output, h.size, fun k hk => h.block k (Nat.lt_of_lt_of_le hk hB) (fun t => by have := ht k t; omega)⟩
theorem Kept.mono {a b : World} {T T' : Nat → Prop} (h : Kept a b T) (ht : ∀ g, T g → T' g) : Kept a b T' := ⟨h.os, h.tape, h.output, h.size, fun k hk hn => h.block k hk (fun t => hn (ht k t))⟩
theorem row_far {w w' : World} {B n size b : Nat} {e : TypeId} {v : Value} {xs : List Value} (h : w.ownsRow B e size v n xs) (hg : w.grownBy w' (some b)) (hn : v.ownBlock ≠ some b) : w'.ownsRow B e size v n xs := h.kept hg (.inr hn)
abbrev PV := List (Pr × Value)
def qp (qs : PV) (i : Nat) : Pr := (qs.getD i (pr0, .slice none 0 0)).1
def qv (qs : PV) (i : Nat) : Value := (qs.getD i (pr0, .slice none 0 0)).2
def cellsQ (qs : PV) : List Value := qs.flatMap fun q => [Value.int .i64 q.1.lies, .int .i64 q.1.wait, .int .i64 q.1.last, .string q.1.asked, q.2]
theorem cellsQ_len : ∀ qs : PV, (cellsQ qs).length = qs.length * 5
  | [] => rfl
  | q :: r => by
    have := cellsQ_len r
    simp only [cellsQ, List.flatMap_cons, List.length_append, List.length_cons, List.length_nil] at this ⊢
    omega
structure Q5 (l : List Value) (o : Nat) (p : Pr) (v : Value) : Prop where
  c0 : l[o]? = some (.int .i64 p.lies)
  c1 : l[o + 1]? = some (.int .i64 p.wait)
  c2 : l[o + 2]? = some (.int .i64 p.last)
  c3 : l[o + 3]? = some (.string p.asked)
  c4 : l[o + 4]? = some v
theorem cellsQ_at : ∀ (qs : PV) (i : Nat), i < qs.length → Q5 (cellsQ qs) (i * 5) (qp qs i) (qv qs i)
  | [], i, h => absurd h (by simp)
  | q :: r, 0, _ => by constructor <;> simp [cellsQ, qp, qv]
  | q :: r, i + 1, h => by
    have ih := cellsQ_at r i (by simpa using h)
    have e : (i + 1) * 5 = i * 5 + 1 + 1 + 1 + 1 + 1 := by omega
    have hc : cellsQ (q :: r) = .int .i64 q.1.lies :: .int .i64 q.1.wait :: .int .i64 q.1.last :: .string q.1.asked :: q.2 :: cellsQ r := rfl
    have hp : qp (q :: r) (i + 1) = qp r i := rfl
    have hv : qv (q :: r) (i + 1) = qv r i := rfl
    rw [e, hc, hp, hv]
    refine ⟨?_, ?_, ?_, ?_, ?_⟩
    · simpa using ih.c0
    · rw [show i * 5 + 1 + 1 + 1 + 1 + 1 + 1 = i * 5 + 1 + 1 + 1 + 1 + 1 + 1 from rfl]; simpa using ih.c1
    · rw [show i * 5 + 1 + 1 + 1 + 1 + 1 + 2 = i * 5 + 2 + 1 + 1 + 1 + 1 + 1 by omega]; simpa using ih.c2
    · rw [show i * 5 + 1 + 1 + 1 + 1 + 1 + 3 = i * 5 + 3 + 1 + 1 + 1 + 1 + 1 by omega]; simpa using ih.c3
    · rw [show i * 5 + 1 + 1 + 1 + 1 + 1 + 4 = i * 5 + 4 + 1 + 1 + 1 + 1 + 1 by omega]; simpa using ih.c4
theorem cellsQ_set4 (qs : PV) (i : Nat) (p : Pr) (h : i < qs.length) : ((((cellsQ qs).set (i * 5) (.int .i64 p.lies)).set (i * 5 + 1) (.int .i64 p.wait)).set (i * 5 + 2) (.int .i64 p.last)).set (i * 5 + 3) (.string p.asked) = cellsQ (qs.set i (p, qv qs i)) := by
  induction qs generalizing i with
  | nil => simp at h
  | cons q r ih =>
    cases i with
    | zero => simp [cellsQ, qv]
    | succ i =>
      have := ih i (by simpa using h)
      have hc : ∀ (q : Pr × Value) r, cellsQ (q :: r) = .int .i64 q.1.lies :: .int .i64 q.1.wait :: .int .i64 q.1.last :: .string q.1.asked :: q.2 :: cellsQ r := fun _ _ => rfl
      have hv : qv (q :: r) (i + 1) = qv r i := rfl
      have hset : ∀ x, (q :: r).set (i + 1) x = q :: r.set i x := fun _ => rfl
      rw [hc, hv, hset, hc, ← this]
      rw [show (i + 1) * 5 = i * 5 + 1 + 1 + 1 + 1 + 1 by omega, show i * 5 + 1 + 1 + 1 + 1 + 1 + 2 = i * 5 + 2 + 1 + 1 + 1 + 1 + 1 by omega, show i * 5 + 1 + 1 + 1 + 1 + 1 + 3 = i * 5 + 3 + 1 + 1 + 1 + 1 + 1 by omega]
      simp only [List.set_cons_succ]
/-- Peers in rows of their own. -/
structure PeersOwn (w : World) (B : Nat) (v : Value) (qs : PV) : Prop where
  row : w.ownsRow B 81 5 v qs.length (cellsQ qs)
  nots : ∀ i, i < qs.length → w.ownsRow B 9 1 (qv qs i) (qp qs i).nots.length ((qp qs i).nots.map Value.string)
  apart : ∀ i, i < qs.length → ∀ g, (qv qs i).ownBlock = some g → v.ownBlock ≠ some g
  apart2 : ∀ i j, i < qs.length → j < qs.length → i ≠ j → ∀ g, (qv qs i).ownBlock = some g → (qv qs j).ownBlock ≠ some g
theorem PeersOwn.none (w : World) (B : Nat) : PeersOwn w B (.slice .none 0 0) [] := ⟨World.ownsRow_nil _ _ _ _, fun i h => absurd h (by simp), fun i h => absurd h (by simp), fun i _ h => absurd h (by simp)⟩
/-- The blocks of peers. -/
def PBlk (v : Value) (qs : PV) (b : Nat) : Prop := v.ownBlock = some b ∨ ∃ i, i < qs.length ∧ (qv qs i).ownBlock = some b
theorem PeersOwn.lt {w : World} {B : Nat} {v : Value} {qs : PV} (h : PeersOwn w B v qs) : ∀ b, PBlk v qs b → B ≤ b ∧ b < w.heap.size := fun b hb => by
  rcases hb with hb | ⟨i, hi, hb⟩
  · exact h.row.lt b hb
  · exact (h.nots i hi).lt b hb
theorem PeersOwn.same {w w' : World} {B : Nat} {v : Value} {qs : PV} (h : PeersOwn w B v qs) (hs : ∀ b, PBlk v qs b → w'.heap[b]? = w.heap[b]?) : PeersOwn w' B v qs :=
  ⟨row_same h.row fun g e => hs g (.inl e), fun i hi => row_same (h.nots i hi) fun g e => hs g (.inr ⟨i, hi, e⟩), h.apart, h.apart2⟩
theorem PeersOwn.below {w w' : World} {B : Nat} {v : Value} {qs : PV} (h : PeersOwn w B v qs) (hb : Below w.heap.size w w') : PeersOwn w' B v qs := h.same fun b hp => hb.block b (h.lt b hp).2
theorem PeersOwn.kept {w w' : World} {B k : Nat} {v : Value} {qs : PV} (h : PeersOwn w B v qs) (hg : w.grownBy w' (some k)) (hk : k < B) : PeersOwn w' B v qs := h.same fun b hp => hg.block b (h.lt b hp).2 (fun e => by have := (h.lt b hp).1; have := Option.some.inj e; omega)
theorem PeersOwn.base {w : World} {B B' : Nat} {v : Value} {qs : PV} (h : PeersOwn w B v qs) (hb : B' ≤ B) : PeersOwn w B' v qs := ⟨ownsRow_base2 h.row hb, fun i hi => ownsRow_base2 (h.nots i hi) hb, h.apart, h.apart2⟩
theorem PeersOwn.rdp {w : World} {B : Nat} {v : Value} {qs : PV} (h : PeersOwn w B v qs) : RdP w v (qs.map Prod.fst) := by
  have hr := h.row
  have hp : ∀ i, i < qs.length → pat (qs.map Prod.fst) i = qp qs i := fun i hi => by simp [pat, qp, hi]
  rcases h.row with ⟨_, ⟨rfl, h0⟩ | ⟨g, cap, cur, rfl, hb, hg, _⟩⟩
  · have : qs = [] := List.eq_nil_of_length_eq_zero h0
    subst this
    exact ⟨_, 0, rfl, fun i hi => absurd hi (by simp)⟩
  · refine ⟨some ⟨g, 0, .none⟩, cap, by simp, fun i hi => ?_⟩
    have hi' : i < qs.length := by simpa using hi
    have hq := cellsQ_at qs i hi'
    rw [hp i hi']
    refine ⟨g, 0, qv qs i, rfl, (Array.getElem?_eq_some_iff.1 hg).1, ?_, ?_, ?_, ?_, ?_, Reads.of_row (h.nots i hi')⟩
    · rw [Nat.zero_add, hr.cellAt _ (by omega)]; exact hq.c0
    · rw [Nat.zero_add, hr.cellAt _ (by omega)]; exact hq.c1
    · rw [Nat.zero_add, hr.cellAt _ (by omega)]; exact hq.c2
    · rw [Nat.zero_add, hr.cellAt _ (by omega)]; exact hq.c3
    · rw [Nat.zero_add, hr.cellAt _ (by omega)]; exact hq.c4
/-- Marks: the k-th on. -/
def markP (k : Nat) (p : Pr) : Pr := ⟨k, ((k + 1 : Nat) : Int), ((k + 2 : Nat) : Int), markB (k + 3), marks (k + 4) p.nots.length⟩
def totP : Prs → Nat
  | [] => 0
  | p :: r => 4 + p.nots.length + totP r
def marksP : Nat → Prs → Prs
  | _, [] => []
  | k, p :: r => markP k p :: marksP (k + (4 + p.nots.length)) r
def totQ (qs : PV) : Nat := totP (qs.map Prod.fst)
def marksQ : Nat → PV → PV
  | _, [] => []
  | k, q :: r => (markP k q.1, q.2) :: marksQ (k + (4 + q.1.nots.length)) r
theorem marksQ_len : ∀ (qs : PV) (k : Nat), (marksQ k qs).length = qs.length
  | [], _ => rfl
  | _ :: r, k => by simp [marksQ, marksQ_len r]
theorem marksP_len : ∀ (ps : Prs) (k : Nat), (marksP k ps).length = ps.length
  | [], _ => rfl
  | _ :: r, k => by simp [marksP, marksP_len r]
theorem marksQ_fst : ∀ (qs : PV) (k : Nat), (marksQ k qs).map Prod.fst = marksP k (qs.map Prod.fst)
  | [], _ => rfl
  | _ :: r, k => by simp [marksQ, marksP, marksQ_fst r]
theorem totP_append : ∀ (a b : Prs), totP (a ++ b) = totP a + totP b
  | [], b => by simp [totP]
  | p :: r, b => by simp [totP, totP_append r b]; omega
theorem totQ_append (a b : PV) : totQ (a ++ b) = totQ a + totQ b := by simp [totQ, totP_append]
theorem marksQ_append : ∀ (a b : PV) (k : Nat), marksQ k (a ++ b) = marksQ k a ++ marksQ (k + totQ a) b
  | [], b, k => by simp [marksQ, totQ, totP]
  | q :: r, b, k => by simp [marksQ, marksQ_append r b, totQ, totP, Nat.add_assoc]
theorem marksP_append : ∀ (a b : Prs) (k : Nat), marksP k (a ++ b) = marksP k a ++ marksP (k + totP a) b
  | [], b, k => by simp [marksP, totP]
  | q :: r, b, k => by simp [marksP, marksP_append r b, totP, Nat.add_assoc]
def mixQ (k m : Nat) (qs : PV) : PV := marksQ k (qs.take m) ++ qs.drop m
theorem mixQ_len (k m : Nat) (qs : PV) (h : m ≤ qs.length) : (mixQ k m qs).length = qs.length := by simp [mixQ, marksQ_len]; omega
theorem mixQ_zero (k : Nat) (qs : PV) : mixQ k 0 qs = qs := by simp [mixQ, marksQ]
theorem mixQ_all (k : Nat) (qs : PV) : mixQ k qs.length qs = marksQ k qs := by simp [mixQ]
theorem qs_at (qs : PV) (m : Nat) (h : m < qs.length) : qs[m] = (qp qs m, qv qs m) := by simp [qp, qv, h]
theorem totQ_take (qs : PV) (m : Nat) (h : m < qs.length) : totQ (qs.take (m + 1)) = totQ (qs.take m) + (4 + (qp qs m).nots.length) := by
  rw [List.take_succ_eq_append_getElem h, totQ_append, qs_at qs m h]
  simp [totQ, totP]
theorem totQ_take_le (qs : PV) (m : Nat) : totQ (qs.take m) ≤ totQ qs := by
  conv => rhs; rw [← List.take_append_drop m qs]
  rw [totQ_append]; omega
theorem totP_ge : ∀ ps : Prs, 4 * ps.length ≤ totP ps
  | [] => by simp
  | p :: r => by
    have := totP_ge r
    simp only [totP, List.length_cons]
    omega
theorem totQ_ge (qs : PV) : 4 * qs.length ≤ totQ qs := by
  have := totP_ge (qs.map Prod.fst)
  rw [List.length_map] at this
  exact this
theorem mixQ_at (k m : Nat) (qs : PV) (h : m < qs.length) : qp (mixQ k m qs) m = qp qs m ∧ qv (mixQ k m qs) m = qv qs m := by
  have hl : (marksQ k (qs.take m)).length = m := by rw [marksQ_len]; simp; omega
  have : (mixQ k m qs)[m]? = qs[m]? := by
    unfold mixQ
    rw [List.getElem?_append_right (by omega), hl, Nat.sub_self, List.getElem?_drop, Nat.add_zero]
  constructor <;> simp only [qp, qv, List.getD_eq_getElem?_getD, this]
theorem mixQ_succ (k m : Nat) (qs : PV) (h : m < qs.length) : (mixQ k m qs).set m (markP (k + totQ (qs.take m)) (qp qs m), qv qs m) = mixQ k (m + 1) qs := by
  have hl : (marksQ k (qs.take m)).length = m := by rw [marksQ_len]; simp; omega
  unfold mixQ
  rw [List.set_append_right _ _ (by omega), hl, Nat.sub_self, List.drop_eq_getElem_cons h, List.set_cons_zero, List.take_succ_eq_append_getElem h, marksQ_append, qs_at qs m h]
  simp [marksQ]
theorem qv_marks : ∀ (qs : PV) (k i : Nat), qv (marksQ k qs) i = qv qs i
  | [], _, _ => rfl
  | _ :: _, _, 0 => rfl
  | q :: r, k, i + 1 => qv_marks r (k + (4 + q.1.nots.length)) i
theorem qv_mix (k m : Nat) (qs : PV) (h : m ≤ qs.length) (i : Nat) : qv (mixQ k m qs) i = qv qs i := by
  have hl : (marksQ k (qs.take m)).length = m := by rw [marksQ_len]; simp; omega
  by_cases hi : i < m
  · have h1 : qv (mixQ k m qs) i = qv (marksQ k (qs.take m)) i := by
      unfold qv mixQ
      rw [List.getD_eq_getElem?_getD, List.getElem?_append_left (by omega), ← List.getD_eq_getElem?_getD]
    rw [h1, qv_marks]
    simp [qv, hi]
  · unfold qv mixQ
    rw [List.getD_eq_getElem?_getD, List.getElem?_append_right (by omega), hl, List.getElem?_drop, show m + (i - m) = i by omega, ← List.getD_eq_getElem?_getD]
theorem qp_set (qs : PV) (m i : Nat) (q : Pr × Value) (h : m < qs.length) : qp (qs.set m q) i = if i = m then q.1 else qp qs i := by
  unfold qp
  rw [List.getD_eq_getElem?_getD, List.getElem?_set]
  by_cases e : m = i
  · subst e; simp [h]
  · rw [if_neg e, if_neg (fun h => e h.symm), ← List.getD_eq_getElem?_getD]
theorem qv_set (qs : PV) (m i : Nat) (p : Pr) (h : m < qs.length) : qv (qs.set m (p, qv qs m)) i = qv qs i := by
  unfold qv
  rw [List.getD_eq_getElem?_getD, List.getElem?_set]
  by_cases e : m = i
  · subst e; simp [h]
  · rw [if_neg e, ← List.getD_eq_getElem?_getD]
set_option maxRecDepth 100000 in
set_option maxHeartbeats 2000000 in
theorem markPeerS_any (v : Value) (k B : Nat) (qs : PV) (w : World) (hown : PeersOwn w B v qs) (h1 : 1 ≤ k) (h2 : k + totQ qs ≤ 4399990) :
    Calls Tryz.prog 32 #[v, .int .i64 k] w fun e w' => e = .returned (.int .i64 ((k + totQ qs : Nat) : Int)) ∧ PeersOwn w' B v (marksQ k qs) ∧ Kept w w' (PBlk v qs) := by
  obtain ⟨a, cap, rfl⟩ := row_any hown.row
  have hform : 0 < qs.length → ∃ g, a = some ⟨g, 0, none⟩ := fun h => by
    rcases hown.row with ⟨_, ⟨e, h0⟩ | ⟨g, cap', cur, e, _⟩⟩
    · omega
    · cases e; exact ⟨g, rfl⟩
  have HW := hid hown
  clear hown
  go_enter Tryz.func32, Tryz.ntmps32
  go_wp2
  go_loopw [1, 5] (fun x i wr => ∃ m : Nat, m ≤ qs.length ∧ i = .int .i64 m ∧ x = .int .i64 ((k + totQ (qs.take m) : Nat) : Int) ∧ PeersOwn wr B (.slice a qs.length cap) (mixQ k m qs) ∧ Kept w wr (PBlk (.slice a qs.length cap) qs)) (fun _ i _ => qs.length - (intOf i).toNat)
  case atStart => exact ⟨0, Nat.zero_le _, rfl, by simp [totQ, totP], by rw [mixQ_zero]; exact HW.out, Kept.refl _ _⟩
  case round =>
    obtain ⟨m, hm, rfl, rfl, hr, hb⟩ := hrel
    by_cases hlt : m < qs.length
    · obtain ⟨g, rfl⟩ := hform (by omega)
      have hlm := mixQ_len k m qs hm
      have htk := totQ_take qs m hlt
      have htl := totQ_take_le qs (m + 1)
      obtain ⟨hqp, hqv⟩ := mixQ_at k m qs hlt
      have hC := cellsQ_at (mixQ k m qs) m (by omega)
      rw [hqp, hqv] at hC
      obtain ⟨j, hj⟩ : ∃ j, j = k + totQ (qs.take m) := ⟨_, rfl⟩
      have HX := hid (mixQ_succ k m qs hlt)
      have HS4 := hid (cellsQ_set4 (mixQ k m qs) m (markP (k + totQ (qs.take m)) (qp qs m)) (by omega))
      rw [← hj] at HX HS4 ⊢
      have hjb : j + 4 + (qp qs m).nots.length ≤ 4399990 := by omega
      have hql : qs.length ≤ 1100000 := by have := totQ_ge qs; omega
      have hN := hr.nots m (by omega)
      rw [hqp, hqv] at hN
      have hap := hr.apart m (by omega)
      rw [hqv] at hap
      have HAP := hid hap
      have hr0 := hr.row
      rw [hlm] at hr0
      have HM := hid fun W => markText_any (j + 3) W (by omega) (by omega)
      have HMS := hid fun W (hw : W.ownsRow B 9 1 (qv qs m) (qp qs m).nots.length ((qp qs m).nots.map Value.string)) => markStringS_grown (qv qs m) (j + 4) B (qp qs m).nots W hw (by omega) (by omega)
      have HJ := hid hj
      have HTK := hid htk
      have HR := hid hr
      have HB := hid hb
      have HLM := hid hlm
      have HQV : Hid (qv (mixQ k m qs) m = qv qs m) := hqv
      obtain ⟨j1, hj1⟩ : ∃ j1, j1 = j + 1 := ⟨_, rfl⟩
      obtain ⟨j2, hj2⟩ : ∃ j2, j2 = j + 2 := ⟨_, rfl⟩
      obtain ⟨j3, hj3⟩ : ∃ j3, j3 = j + 3 := ⟨_, rfl⟩
      obtain ⟨j4, hj4⟩ : ∃ j4, j4 = j + 4 := ⟨_, rfl⟩
      have hw1 : IntKind.i64.wrap ((j : Int) + 1) = (j1 : Int) := by rw [IntKind.wrap_i64]; omega
      have hw2 : IntKind.i64.wrap ((j1 : Int) + 1) = (j2 : Int) := by rw [IntKind.wrap_i64]; omega
      have hw3 : IntKind.i64.wrap ((j2 : Int) + 1) = (j3 : Int) := by rw [IntKind.wrap_i64]; omega
      have hw4 : IntKind.i64.wrap ((j3 : Int) + 1) = (j4 : Int) := by rw [IntKind.wrap_i64]; omega
      have hmk : markP j (qp qs m) = ⟨(j : Int), (j1 : Int), (j2 : Int), markB j3, marks j4 (qp qs m).nots.length⟩ := by rw [hj1, hj2, hj3, hj4]; rfl
      rw [hmk] at HX HS4
      rw [← hj3] at HM
      rw [← hj4] at HMS
      have HJ4 := hid hj4
      clear hj hj1 hj2 hj3 hj4 htk htl hr hb hlm hqp hqv hap h1 h2 hmk
      generalize hcs : cellsQ (mixQ k m qs) = cs at *
      clear hcs
      have hcl : qs.length * 5 = cs.length := by have := hr0.1; omega
      generalize markB j3 = q at *
      obtain ⟨a4, c4, hvn⟩ : ∃ a4 c4, qv qs m = .slice a4 (qp qs m).nots.length c4 := by obtain ⟨x, y, e, _⟩ := row_form hN; exact ⟨x, y, e⟩
      have HVN := hid hvn
      rw [hvn] at hC
      generalize (qp qs m).nots = nt at *
      generalize hlies : (qp qs m).lies = zl at *
      generalize hwait : (qp qs m).wait = zw at *
      generalize hlast : (qp qs m).last = zt at *
      generalize hask : (qp qs m).asked = za at *
      clear hlies hwait hlast hask hvn
      obtain ⟨C0, C1, C2, C3, C4⟩ := hC
      have hz : m * 5 + 4 < qs.length * 5 := by omega
      have e0 := (hr0.cellAt (m * 5) (by omega)).trans C0
      have f0 := hr0.frozenAt (m * 5)
      have r1 := hr0.stored (m * 5) (.int .i64 (j : Int))
      have e1 := (r1.1.cellAt (m * 5 + 1) (by omega)).trans ((List.getElem?_set_ne (by omega)).trans C1)
      have f1 := r1.1.frozenAt (m * 5 + 1)
      have r2 := r1.1.stored (m * 5 + 1) (.int .i64 (j1 : Int))
      have e2 := (r2.1.cellAt (m * 5 + 2) (by omega)).trans ((List.getElem?_set_ne (by omega)).trans ((List.getElem?_set_ne (by omega)).trans C2))
      have f2 := r2.1.frozenAt (m * 5 + 2)
      have r3 := r2.1.stored (m * 5 + 2) (.int .i64 (j2 : Int))
      have e3 := (r3.1.cellAt (m * 5 + 3) (by omega)).trans ((List.getElem?_set_ne (by omega)).trans ((List.getElem?_set_ne (by omega)).trans ((List.getElem?_set_ne (by omega)).trans C3)))
      have e4 := (r3.1.cellAt (m * 5 + 4) (by omega)).trans ((List.getElem?_set_ne (by omega)).trans ((List.getElem?_set_ne (by omega)).trans ((List.getElem?_set_ne (by omega)).trans C4)))
      have hG3 := grown_same (grown_same r1.2 r2.2) r3.2
      have HG3 := hid hG3
      have HR3 := hid r3.1
      have HE3 := hid e3
      have HE4 := hid e4
      clear r1 r2 r3 hr0 C0 C1 C2 C3 C4 e3 e4 hG3
      go_wp2_with fail
      generalize hW3 : (((wr.setCell ⟨g, m * 5, none⟩ (.int .i64 (j : Int))).setCell ⟨g, m * 5 + 1, none⟩ (.int .i64 (j1 : Int))).setCell ⟨g, m * 5 + 2, none⟩ (.int .i64 (j2 : Int))) = W3 at *
      clear hW3 e0 e1 e2 f0 f1 f2
      refine (HM.out _).mono ?_
      rintro e w4 ⟨rfl, hb4⟩
      have r4 := HR3.out.kept (grown_of_below hb4) (.inr (by simp [Value.ownBlock]))
      have x3 := (hb4.cell (p := ⟨g, m * 5 + 3, none⟩) (HR3.out.lt g rfl).2).trans HE3.out
      have x4 := (hb4.cell (p := ⟨g, m * 5 + 4, none⟩) (HR3.out.lt g rfl).2).trans HE4.out
      have f3 := r4.frozenAt (m * 5 + 3)
      have r5 := r4.stored (m * 5 + 3) (.string q)
      have y4 : (w4.setCell ⟨g, m * 5 + 3, none⟩ (.string q)).cell? ⟨g, m * 5 + 4, none⟩ = some (.slice a4 nt.length c4) := by
        rw [r5.1.cellAt (m * 5 + 4) (by omega), List.getElem?_set_ne (by omega), ← r4.cellAt (m * 5 + 4) (by omega)]; exact x4
      have hG5 : wr.grownBy (w4.setCell ⟨g, m * 5 + 3, none⟩ (.string q)) (some g) := grown_same (grown_same HG3.out (grown_below' hb4)) r5.2
      have hgn : (qv qs m).ownBlock ≠ some g := fun e => HAP.out g e rfl
      have HMS5 := hid (HMS.out _ (row_far hN hG5 hgn))
      rw [HVN.out] at HMS5
      have HR5 := hid r5.1
      have HG5 := hid hG5
      clear r4 r5 hG5 hb4 x4 hN HMS
      go_wp2_with fail
      refine HMS5.out.mono ?_
      rintro e w6 ⟨rfl, ho6, hg6⟩
      have hn6 : (Value.slice (some ⟨g, 0, none⟩) qs.length cap).ownBlock ≠ (Value.slice a4 nt.length c4).ownBlock := fun e => by
        rw [← HVN.out] at e
        exact HAP.out g e.symm rfl
      have r6 := HR5.out.kept hg6 (.inr hn6)
      rw [HS4.out] at r6
      have HR6 := hid r6
      have HO6 := hid ho6
      have HG6 := hid hg6
      clear r6 ho6 hg6 hn6 x3 f3 y4 hgn
      go_wp2
      have hTq : ∀ b, (Value.slice (some ⟨g, 0, none⟩) qs.length cap).ownBlock = some b → PBlk (Value.slice (some ⟨g, 0, none⟩) qs.length cap) qs b := fun b e => .inl e
      have hTm : ∀ b, (Value.slice a4 nt.length c4).ownBlock = some b → PBlk (Value.slice (some ⟨g, 0, none⟩) qs.length cap) qs b := fun b e => .inr ⟨m, hlt, by rw [HVN.out]; exact e⟩
      refine ⟨⟨m + 1, by omega, by go_num, ?_, ?_, (HB.out.trans (Kept.of_grown HG5.out hTq)).trans (Kept.of_grown HG6.out hTm)⟩, by simp [intOf]; omega⟩
      · rw [HTK.out, HJ4.out, HJ.out]; congr 1; omega
      · have hs := HX.out
        rw [← hs]
        have hlx : ((mixQ k m qs).set m (⟨(j : Int), (j1 : Int), (j2 : Int), q, marks j4 nt.length⟩, qv qs m)).length = qs.length := by rw [List.length_set, HLM.out]
        have hqvs : ∀ i, qv ((mixQ k m qs).set m (⟨(j : Int), (j1 : Int), (j2 : Int), q, marks j4 nt.length⟩, qv qs m)) i = qv (mixQ k m qs) i := fun i => by
          have := qv_set (mixQ k m qs) m i ⟨(j : Int), (j1 : Int), (j2 : Int), q, marks j4 nt.length⟩ (by rw [HLM.out]; exact hlt)
          rw [HQV.out] at this
          exact this
        refine ⟨?_, fun i hi => ?_, fun i hi => ?_, fun i i' hi hi' => ?_⟩
        · rw [hlx]
          have := HR6.out
          rw [HQV.out] at this
          exact this
        · rw [hlx] at hi
          rw [hqvs, qp_set _ _ _ _ (by rw [HLM.out]; exact hlt)]
          by_cases he : i = m
          · subst he
            rw [if_pos rfl, HQV.out, HVN.out]
            dsimp only
            rw [marks_length]
            exact HO6.out
          · rw [if_neg he]
            have h0 := HR.out.nots i (by rw [HLM.out]; exact hi)
            have hA1 := HR.out.apart i (by rw [HLM.out]; exact hi)
            have hA2 := HR.out.apart2 i m (by rw [HLM.out]; exact hi) (by rw [HLM.out]; exact hlt) he
            have h5 := row_far h0 HG5.out (fun e => hA1 g e rfl)
            refine h5.kept HG6.out ?_
            cases hv : (qv (mixQ k m qs) i).ownBlock with
            | none => exact .inl rfl
            | some b => exact .inr fun e => hA2 b hv (by rw [HQV.out, HVN.out]; exact e.symm)
        · rw [hlx] at hi
          rw [hqvs]
          exact HR.out.apart i (by rw [HLM.out]; exact hi)
        · rw [hlx] at hi hi'
          rw [hqvs, hqvs]
          exact HR.out.apart2 i i' (by rw [HLM.out]; exact hi) (by rw [HLM.out]; exact hi')
    · obtain rfl : m = qs.length := by omega
      rw [mixQ_all] at hr
      rw [List.take_length]
      have HR := hid hr
      have HB := hid hb
      clear hr hb
      go_wp2
      go_ret
      exact ⟨rfl, HR.out, HB.out⟩
end Go.Proofs.YtlnkhbnbcmllaaaGreat
