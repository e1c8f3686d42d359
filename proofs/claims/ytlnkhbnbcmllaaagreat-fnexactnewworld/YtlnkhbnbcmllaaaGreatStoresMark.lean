/- Stores in rows of their own; laws.markStoreS and laws.heldStoreS. -/
import Derived.Test.YtlnkhbnbcmllaaaGreatFetchTo
import Derived.Test.YtlnkhbnbcmllaaaGreatWorlds
namespace Go.Proofs.YtlnkhbnbcmllaaaGreat
open Go.RowKit
abbrev SV := List (Sr × Value × Value)
def sv0 : Sr × Value × Value := (sr0, .slice none 0 0, .slice none 0 0)
def stp (ss : SV) (i : Nat) : Sr := (ss.getD i sv0).1
def sti (ss : SV) (i : Nat) : Value := (ss.getD i sv0).2.1
def stq (ss : SV) (i : Nat) : Value := (ss.getD i sv0).2.2
def cellsT (ss : SV) : List Value := ss.flatMap fun q => [Value.int .i64 q.1.wd, .int .i64 q.1.room, q.2.1, q.2.2]
theorem cellsT_len : ∀ ss : SV, (cellsT ss).length = ss.length * 4
  | [] => rfl
  | q :: r => by
    have := cellsT_len r
    simp only [cellsT, List.flatMap_cons, List.length_append, List.length_cons, List.length_nil] at this ⊢
    omega
structure T4 (l : List Value) (o : Nat) (p : Sr) (vi vp : Value) : Prop where
  c0 : l[o]? = some (.int .i64 p.wd)
  c1 : l[o + 1]? = some (.int .i64 p.room)
  c2 : l[o + 2]? = some vi
  c3 : l[o + 3]? = some vp
theorem cellsT_cons (q : Sr × Value × Value) (r : SV) : cellsT (q :: r) = .int .i64 q.1.wd :: .int .i64 q.1.room :: q.2.1 :: q.2.2 :: cellsT r := rfl
theorem cellsT_at : ∀ (ss : SV) (i : Nat), i < ss.length → T4 (cellsT ss) (i * 4) (stp ss i) (sti ss i) (stq ss i)
  | [], i, h => absurd h (by simp)
  | q :: r, 0, _ => by constructor <;> simp [cellsT, stp, sti, stq]
  | q :: r, i + 1, h => by
    have ih := cellsT_at r i (by simpa using h)
    have e : (i + 1) * 4 = i * 4 + 1 + 1 + 1 + 1 := by omega
    have hp : stp (q :: r) (i + 1) = stp r i := rfl
    have hv : sti (q :: r) (i + 1) = sti r i := rfl
    have hu : stq (q :: r) (i + 1) = stq r i := rfl
    rw [e, cellsT_cons, hp, hv, hu]
    refine ⟨?_, ?_, ?_, ?_⟩
    · simpa using ih.c0
    · rw [show i * 4 + 1 + 1 + 1 + 1 + 1 = i * 4 + 1 + 1 + 1 + 1 + 1 from rfl]; simpa using ih.c1
    · rw [show i * 4 + 1 + 1 + 1 + 1 + 2 = i * 4 + 2 + 1 + 1 + 1 + 1 by omega]; simpa using ih.c2
    · rw [show i * 4 + 1 + 1 + 1 + 1 + 3 = i * 4 + 3 + 1 + 1 + 1 + 1 by omega]; simpa using ih.c3
theorem cellsT_set2 (ss : SV) (i : Nat) (p : Sr) (h : i < ss.length) : ((cellsT ss).set (i * 4) (.int .i64 p.wd)).set (i * 4 + 1) (.int .i64 p.room) = cellsT (ss.set i (p, sti ss i, stq ss i)) := by
  induction ss generalizing i with
  | nil => simp at h
  | cons q r ih =>
    cases i with
    | zero => simp [cellsT, sti, stq]
    | succ i =>
      have := ih i (by simpa using h)
      have hv : sti (q :: r) (i + 1) = sti r i := rfl
      have hu : stq (q :: r) (i + 1) = stq r i := rfl
      have hset : ∀ x, (q :: r).set (i + 1) x = q :: r.set i x := fun _ => rfl
      rw [cellsT_cons, hv, hu, hset, cellsT_cons, ← this]
      rw [show (i + 1) * 4 = i * 4 + 1 + 1 + 1 + 1 by omega]
      simp only [List.set_cons_succ]
/-- Rows of other things are other rows. -/
theorem row_other {w : World} {B B' s s' n n' : Nat} {e e' : TypeId} {v v' : Value} {xs xs' : List Value} (h : w.ownsRow B e s v n xs) (k : w.ownsRow B' e' s' v' n' xs') (hne : e ≠ e') {g : Nat} (h1 : v.ownBlock = some g) (h2 : v'.ownBlock = some g) : False := by
  rcases h with ⟨_, ⟨rfl, _⟩ | ⟨g1, cap, cur, rfl, _, hg, _⟩⟩
  · simp [Value.ownBlock] at h1
  · rcases k with ⟨_, ⟨rfl, _⟩ | ⟨g2, cap', cur', rfl, _, hg', _⟩⟩
    · simp [Value.ownBlock] at h2
    · obtain rfl : g1 = g := Option.some.inj h1
      obtain rfl : g2 = g1 := Option.some.inj h2
      rw [hg] at hg'
      cases hg'
      exact hne rfl
/-- Stores in rows of their own. -/
structure StoresOwn (w : World) (B : Nat) (v : Value) (ss : SV) : Prop where
  row : w.ownsRow B 34 4 v ss.length (cellsT ss)
  each : ∀ i, i < ss.length → StoreOwn w B (sti ss i) (stq ss i) (stp ss i).its (stp ss i).ts
  apartI : ∀ i j, i < ss.length → j < ss.length → i ≠ j → ∀ g, (sti ss i).ownBlock = some g → (sti ss j).ownBlock ≠ some g
  apartP : ∀ i j, i < ss.length → j < ss.length → i ≠ j → ∀ g, (stq ss i).ownBlock = some g → (stq ss j).ownBlock ≠ some g
theorem StoresOwn.none (w : World) (B : Nat) : StoresOwn w B (.slice .none 0 0) [] := ⟨World.ownsRow_nil _ _ _ _, fun i h => absurd h (by simp), fun i _ h => absurd h (by simp), fun i _ h => absurd h (by simp)⟩
/-- The blocks that stores lie in. -/
def TBlk (v : Value) (ss : SV) (b : Nat) : Prop := v.ownBlock = some b ∨ ∃ i, i < ss.length ∧ ((sti ss i).ownBlock = some b ∨ (stq ss i).ownBlock = some b)
theorem StoresOwn.lt {w : World} {B : Nat} {v : Value} {ss : SV} (h : StoresOwn w B v ss) : ∀ b, TBlk v ss b → B ≤ b ∧ b < w.heap.size := fun b hb => by
  rcases hb with hb | ⟨i, hi, hb | hb⟩
  · exact h.row.lt b hb
  · exact (h.each i hi).items.lt b hb
  · exact (h.each i hi).pins.lt b hb
theorem StoresOwn.same {w w' : World} {B : Nat} {v : Value} {ss : SV} (h : StoresOwn w B v ss) (hs : ∀ b, TBlk v ss b → w'.heap[b]? = w.heap[b]?) : StoresOwn w' B v ss :=
  ⟨row_same h.row fun g e => hs g (.inl e), fun i hi => (h.each i hi).same (fun g e => hs g (.inr ⟨i, hi, .inl e⟩)) (fun g e => hs g (.inr ⟨i, hi, .inr e⟩)), h.apartI, h.apartP⟩
theorem StoresOwn.below {w w' : World} {B : Nat} {v : Value} {ss : SV} (h : StoresOwn w B v ss) (hb : Below w.heap.size w w') : StoresOwn w' B v ss := h.same fun b hp => hb.block b (h.lt b hp).2
theorem StoresOwn.kept {w w' : World} {B k : Nat} {v : Value} {ss : SV} (h : StoresOwn w B v ss) (hg : w.grownBy w' (some k)) (hk : k < B) : StoresOwn w' B v ss := h.same fun b hp => hg.block b (h.lt b hp).2 (fun e => by have := (h.lt b hp).1; have := Option.some.inj e; omega)
theorem StoresOwn.base {w : World} {B B' : Nat} {v : Value} {ss : SV} (h : StoresOwn w B v ss) (hb : B' ≤ B) : StoresOwn w B' v ss := ⟨ownsRow_base2 h.row hb, fun i hi => (h.each i hi).base hb, h.apartI, h.apartP⟩
theorem StoresOwn.rds {w : World} {B : Nat} {v : Value} {ss : SV} (h : StoresOwn w B v ss) : RdS w v (ss.map Prod.fst) := by
  obtain ⟨a, cap, rfl⟩ := row_any h.row
  refine ⟨a, cap, by rw [List.length_map], fun i hi => ?_⟩
  rw [List.length_map] at hi
  have hs : sat (ss.map Prod.fst) i = stp ss i := by simp [sat, stp, hi]
  have ht := cellsT_at ss i hi
  have he := h.each i hi
  have hr := h.row
  rcases h.row with ⟨_, ⟨e, h0⟩ | ⟨g, cap', cur, e, hb, hg, _⟩⟩
  · omega
  · cases e
    refine ⟨g, 0, sti ss i, stq ss i, rfl, ?_⟩
    rw [hs]
    refine ⟨(Array.getElem?_eq_some_iff.1 hg).1, ?_, ?_, ?_, ?_, he.rdi, Reads.of_row he.pins⟩
    · rw [Nat.zero_add, hr.cellAt _ (by omega)]; exact ht.c0
    · rw [Nat.zero_add, hr.cellAt _ (by omega)]; exact ht.c1
    · rw [Nat.zero_add, hr.cellAt _ (by omega)]; exact ht.c2
    · rw [Nat.zero_add, hr.cellAt _ (by omega)]; exact ht.c3
/-- Marks: the k-th on. -/
def markR (k : Nat) (p : Sr) : Sr := ⟨k, ((k + 1 : Nat) : Int), marksI (k + 2) p.its.length, marks (k + 2 + 2 * p.its.length) p.ts.length⟩
def onR (p : Sr) : Nat := 2 + 2 * p.its.length + p.ts.length
def totR : Srs → Nat
  | [] => 0
  | p :: r => onR p + totR r
def marksR : Nat → Srs → Srs
  | _, [] => []
  | k, p :: r => markR k p :: marksR (k + onR p) r
def totT (ss : SV) : Nat := totR (ss.map Prod.fst)
def marksT : Nat → SV → SV
  | _, [] => []
  | k, q :: r => (markR k q.1, q.2) :: marksT (k + onR q.1) r
theorem marksT_len : ∀ (ss : SV) (k : Nat), (marksT k ss).length = ss.length
  | [], _ => rfl
  | _ :: r, k => by simp [marksT, marksT_len r]
theorem marksR_len : ∀ (ps : Srs) (k : Nat), (marksR k ps).length = ps.length
  | [], _ => rfl
  | _ :: r, k => by simp [marksR, marksR_len r]
theorem marksT_fst : ∀ (ss : SV) (k : Nat), (marksT k ss).map Prod.fst = marksR k (ss.map Prod.fst)
  | [], _ => rfl
  | _ :: r, k => by simp [marksT, marksR, marksT_fst r]
theorem totR_append : ∀ (a b : Srs), totR (a ++ b) = totR a + totR b
  | [], b => by simp [totR]
  | p :: r, b => by simp [totR, totR_append r b]; omega
theorem totT_append (a b : SV) : totT (a ++ b) = totT a + totT b := by simp [totT, totR_append]
theorem marksT_append : ∀ (a b : SV) (k : Nat), marksT k (a ++ b) = marksT k a ++ marksT (k + totT a) b
  | [], b, k => by simp [marksT, totT, totR]
  | q :: r, b, k => by simp [marksT, marksT_append r b, totT, totR, Nat.add_assoc]
def mixT (k m : Nat) (ss : SV) : SV := marksT k (ss.take m) ++ ss.drop m
theorem mixT_len (k m : Nat) (ss : SV) (h : m ≤ ss.length) : (mixT k m ss).length = ss.length := by simp [mixT, marksT_len]; omega
theorem mixT_zero (k : Nat) (ss : SV) : mixT k 0 ss = ss := by simp [mixT, marksT]
theorem mixT_all (k : Nat) (ss : SV) : mixT k ss.length ss = marksT k ss := by simp [mixT]
theorem ss_at (ss : SV) (m : Nat) (h : m < ss.length) : ss[m] = (stp ss m, sti ss m, stq ss m) := by simp [stp, sti, stq, h]
theorem totT_take (ss : SV) (m : Nat) (h : m < ss.length) : totT (ss.take (m + 1)) = totT (ss.take m) + onR (stp ss m) := by
  rw [List.take_succ_eq_append_getElem h, totT_append, ss_at ss m h]
  simp [totT, totR]
theorem totT_take_le (ss : SV) (m : Nat) : totT (ss.take m) ≤ totT ss := by
  conv => rhs; rw [← List.take_append_drop m ss]
  rw [totT_append]; omega
theorem totR_ge : ∀ ps : Srs, 2 * ps.length ≤ totR ps
  | [] => by simp
  | p :: r => by
    have := totR_ge r
    simp only [totR, onR, List.length_cons]
    omega
theorem totT_ge (ss : SV) : 2 * ss.length ≤ totT ss := by
  have := totR_ge (ss.map Prod.fst)
  rw [List.length_map] at this
  exact this
theorem mixT_at (k m : Nat) (ss : SV) (h : m < ss.length) : stp (mixT k m ss) m = stp ss m ∧ sti (mixT k m ss) m = sti ss m ∧ stq (mixT k m ss) m = stq ss m := by
  have hl : (marksT k (ss.take m)).length = m := by rw [marksT_len]; simp; omega
  have : (mixT k m ss)[m]? = ss[m]? := by
    unfold mixT
    rw [List.getElem?_append_right (by omega), hl, Nat.sub_self, List.getElem?_drop, Nat.add_zero]
  refine ⟨?_, ?_, ?_⟩ <;> simp only [stp, sti, stq, List.getD_eq_getElem?_getD, this]
theorem mixT_succ (k m : Nat) (ss : SV) (h : m < ss.length) : (mixT k m ss).set m (markR (k + totT (ss.take m)) (stp ss m), sti ss m, stq ss m) = mixT k (m + 1) ss := by
  have hl : (marksT k (ss.take m)).length = m := by rw [marksT_len]; simp; omega
  unfold mixT
  rw [List.set_append_right _ _ (by omega), hl, Nat.sub_self, List.drop_eq_getElem_cons h, List.set_cons_zero, List.take_succ_eq_append_getElem h, marksT_append, ss_at ss m h]
  simp [marksT]
theorem stv_marks : ∀ (ss : SV) (k i : Nat), sti (marksT k ss) i = sti ss i ∧ stq (marksT k ss) i = stq ss i
  | [], _, _ => ⟨rfl, rfl⟩
  | _ :: _, _, 0 => ⟨rfl, rfl⟩
  | q :: r, k, i + 1 => stv_marks r (k + onR q.1) i
theorem tblk_marks {v : Value} {ss : SV} {k b : Nat} (h : TBlk v (marksT k ss) b) : TBlk v ss b := by
  rcases h with h | ⟨i, hi, h⟩
  · exact .inl h
  · rw [marksT_len] at hi
    rw [(stv_marks ss k i).1, (stv_marks ss k i).2] at h
    exact .inr ⟨i, hi, h⟩
theorem stp_set (ss : SV) (m i : Nat) (q : Sr × Value × Value) (h : m < ss.length) : stp (ss.set m q) i = if i = m then q.1 else stp ss i := by
  unfold stp
  rw [List.getD_eq_getElem?_getD, List.getElem?_set]
  by_cases e : m = i
  · subst e; simp [h]
  · rw [if_neg e, if_neg (fun h => e h.symm), ← List.getD_eq_getElem?_getD]
theorem stv_set (ss : SV) (m i : Nat) (p : Sr) (h : m < ss.length) : sti (ss.set m (p, sti ss m, stq ss m)) i = sti ss i ∧ stq (ss.set m (p, sti ss m, stq ss m)) i = stq ss i := by
  unfold sti stq
  rw [List.getD_eq_getElem?_getD, List.getElem?_set]
  by_cases e : m = i
  · subst e; simp [h]
  · rw [if_neg e, ← List.getD_eq_getElem?_getD]; exact ⟨rfl, rfl⟩
set_option maxRecDepth 100000 in
set_option maxHeartbeats 2000000 in
theorem markStoreS_any (v : Value) (k B : Nat) (ss : SV) (w : World) (hown : StoresOwn w B v ss) (h1 : 1 ≤ k) (h2 : k + totT ss ≤ 4399990) :
    Calls Tryz.prog 14 #[v, .int .i64 k] w fun e w' => e = .returned (.int .i64 ((k + totT ss : Nat) : Int)) ∧ StoresOwn w' B v (marksT k ss) ∧ Kept w w' (TBlk v ss) := by
  obtain ⟨a, cap, rfl⟩ := row_any hown.row
  have hform : 0 < ss.length → ∃ g, a = some ⟨g, 0, none⟩ := fun h => by
    rcases hown.row with ⟨_, ⟨e, h0⟩ | ⟨g, cap', cur, e, _⟩⟩
    · omega
    · cases e; exact ⟨g, rfl⟩
  have HW := hid hown
  clear hown
  go_enter Tryz.func14, Tryz.ntmps14
  go_wp2
  go_loopw [1, 5] (fun x i wr => ∃ m : Nat, m ≤ ss.length ∧ i = .int .i64 m ∧ x = .int .i64 ((k + totT (ss.take m) : Nat) : Int) ∧ StoresOwn wr B (.slice a ss.length cap) (mixT k m ss) ∧ Kept w wr (TBlk (.slice a ss.length cap) ss)) (fun _ i _ => ss.length - (intOf i).toNat)
  case atStart => exact ⟨0, Nat.zero_le _, rfl, by simp [totT, totR], by rw [mixT_zero]; exact HW.out, Kept.refl _ _⟩
  case round =>
    obtain ⟨m, hm, rfl, rfl, hr, hb⟩ := hrel
    by_cases hlt : m < ss.length
    · obtain ⟨g, rfl⟩ := hform (by omega)
      have hlm := mixT_len k m ss hm
      have htk := totT_take ss m hlt
      have htl := totT_take_le ss (m + 1)
      obtain ⟨htp, hti, htq⟩ := mixT_at k m ss hlt
      have hC := cellsT_at (mixT k m ss) m (by omega)
      rw [htp, hti, htq] at hC
      obtain ⟨j, hj⟩ : ∃ j, j = k + totT (ss.take m) := ⟨_, rfl⟩
      have HX := hid (mixT_succ k m ss hlt)
      have HS2 := hid (cellsT_set2 (mixT k m ss) m (markR (k + totT (ss.take m)) (stp ss m)) (by omega))
      rw [← hj] at HX HS2 ⊢
      have hon : onR (stp ss m) = 2 + 2 * (stp ss m).its.length + (stp ss m).ts.length := rfl
      have hjb : j + 2 + 2 * (stp ss m).its.length + (stp ss m).ts.length ≤ 4399990 := by omega
      have hql : ss.length ≤ 2200000 := by have := totT_ge ss; omega
      have hE := hr.each m (by omega)
      rw [htp, hti, htq] at hE
      have hr0 := hr.row
      rw [hlm] at hr0
      have hgi : (sti ss m).ownBlock ≠ some g := fun e => row_other hE.items hr0 (by decide) e rfl
      have hgp : (stq ss m).ownBlock ≠ some g := fun e => row_other hE.pins hr0 (by decide) e rfl
      have HMI := hid fun W (hw : W.ownsRow B 84 2 (sti ss m) (stp ss m).its.length (cellsI (stp ss m).its)) => markItemS_grown (sti ss m) (j + 2) B (stp ss m).its W hw (by omega) (by omega)
      have HMS := hid fun W (hw : W.ownsRow B 9 1 (stq ss m) (stp ss m).ts.length ((stp ss m).ts.map Value.string)) => markStringS_grown (stq ss m) (j + 2 + 2 * (stp ss m).its.length) B (stp ss m).ts W hw (by omega) (by omega)
      have HJ := hid hj
      have HTK := hid htk
      have HR := hid hr
      have HB := hid hb
      have HLM := hid hlm
      have HTI : Hid (sti (mixT k m ss) m = sti ss m ∧ stq (mixT k m ss) m = stq ss m) := ⟨hti, htq⟩
      have HEE := hid hE
      obtain ⟨j1, hj1⟩ : ∃ j1, j1 = j + 1 := ⟨_, rfl⟩
      obtain ⟨j2, hj2⟩ : ∃ j2, j2 = j + 2 := ⟨_, rfl⟩
      obtain ⟨j3, hj3⟩ : ∃ j3, j3 = j + 2 + 2 * (stp ss m).its.length := ⟨_, rfl⟩
      have hw1 : IntKind.i64.wrap ((j : Int) + 1) = (j1 : Int) := by rw [IntKind.wrap_i64]; omega
      have hw2 : IntKind.i64.wrap ((j1 : Int) + 1) = (j2 : Int) := by rw [IntKind.wrap_i64]; omega
      have hmk : markR j (stp ss m) = ⟨(j : Int), (j1 : Int), marksI j2 (stp ss m).its.length, marks j3 (stp ss m).ts.length⟩ := by rw [hj1, hj2, hj3]; rfl
      rw [hmk] at HX HS2
      rw [← hj3] at HMS
      rw [← hj2] at HMI
      have hj3b : j2 + 2 * (stp ss m).its.length = j3 := by omega
      rw [hj3b] at HMI
      have HJ3 := hid hj3
      clear hj hj1 hj2 hj3 htk htl hr hb hlm htp hti htq h1 h2 hmk hj3b hon hE
      generalize hcs : cellsT (mixT k m ss) = cs at *
      clear hcs
      have hcl : ss.length * 4 = cs.length := by have := hr0.1; omega
      obtain ⟨a2, c2, hv2⟩ : ∃ x y, sti ss m = .slice x (stp ss m).its.length y := row_any HEE.out.items
      obtain ⟨a3, c3, hv3⟩ : ∃ x y, stq ss m = .slice x (stp ss m).ts.length y := row_any HEE.out.pins
      have HV2 := hid hv2
      have HV3 := hid hv3
      rw [hv2, hv3] at hC
      obtain ⟨C0, C1, C2, C3⟩ := hC
      have e0 := (hr0.cellAt (m * 4) (by omega)).trans C0
      have f0 := hr0.frozenAt (m * 4)
      have r1 := hr0.stored (m * 4) (.int .i64 (j : Int))
      have e1 := (r1.1.cellAt (m * 4 + 1) (by omega)).trans ((List.getElem?_set_ne (by omega)).trans C1)
      have f1 := r1.1.frozenAt (m * 4 + 1)
      have r2 := r1.1.stored (m * 4 + 1) (.int .i64 (j1 : Int))
      have e2 := (r2.1.cellAt (m * 4 + 2) (by omega)).trans ((List.getElem?_set_ne (by omega)).trans ((List.getElem?_set_ne (by omega)).trans C2))
      have e3 := (r2.1.cellAt (m * 4 + 3) (by omega)).trans ((List.getElem?_set_ne (by omega)).trans ((List.getElem?_set_ne (by omega)).trans C3))
      have HG2 := hid (grown_same r1.2 r2.2)
      have HR2 := hid r2.1
      have HMI2 := hid (HMI.out _ (row_far HEE.out.items HG2.out hgi))
      rw [hv2] at HMI2
      have HE3 := hid e3
      clear r1 r2 hr0 C0 C1 C2 C3 HMI hv2 hv3 e3
      go_wp2_with fail
      generalize hW2 : ((wr.setCell ⟨g, m * 4, none⟩ (.int .i64 (j : Int))).setCell ⟨g, m * 4 + 1, none⟩ (.int .i64 (j1 : Int))) = W2 at *
      clear hW2 e0 e1 e2 f0 f1
      refine HMI2.out.mono ?_
      rintro e w4 ⟨rfl, ho4, hg4⟩
      rw [← HV2.out] at ho4 hg4
      have hgr4 := HR2.out.kept hg4 (.inr fun e => hgi e.symm)
      have x3 := (hgr4.cellAt (m * 4 + 3) (by omega)).trans ((HR2.out.cellAt (m * 4 + 3) (by omega)).symm.trans HE3.out)
      have hP4 : w4.ownsRow B 9 1 (stq ss m) (stp ss m).ts.length ((stp ss m).ts.map Value.string) := by
        refine (row_far HEE.out.pins HG2.out hgp).kept hg4 ?_
        cases hv : (stq ss m).ownBlock with
        | none => exact .inl rfl
        | some b => exact .inr fun e => HEE.out.apart b e.symm hv
      have HMS4 := hid (HMS.out w4 hP4)
      rw [HV3.out] at HMS4
      have HR4 := hid hgr4
      have HO4 := hid ho4
      have HG4 := hid hg4
      clear hgr4 ho4 hg4 hP4 HMS HMI2
      go_wp2_with fail
      refine HMS4.out.mono ?_
      rintro e w6 ⟨rfl, ho6, hg6⟩
      rw [← HV3.out] at ho6 hg6
      have r6 := HR4.out.kept hg6 (.inr fun e => hgp e.symm)
      rw [HS2.out] at r6
      have i6 : w6.ownsRow B 84 2 (sti ss m) (stp ss m).its.length (cellsI (marksI j2 (stp ss m).its.length)) := by
        refine HO4.out.kept hg6 ?_
        cases hv : (sti ss m).ownBlock with
        | none => exact .inl rfl
        | some b => exact .inr fun e => HEE.out.apart b hv e.symm
      have HR6 := hid r6
      have HI6 := hid i6
      have HO6 := hid ho6
      have HG6 := hid hg6
      clear r6 i6 ho6 hg6 x3
      go_wp2
      have hT1 : ∀ b, (Value.slice (some ⟨g, 0, none⟩) ss.length cap).ownBlock = some b → TBlk (Value.slice (some ⟨g, 0, none⟩) ss.length cap) ss b := fun b e => .inl e
      have hT2 : ∀ b, (sti ss m).ownBlock = some b → TBlk (Value.slice (some ⟨g, 0, none⟩) ss.length cap) ss b := fun b e => .inr ⟨m, hlt, .inl e⟩
      have hT3 : ∀ b, (stq ss m).ownBlock = some b → TBlk (Value.slice (some ⟨g, 0, none⟩) ss.length cap) ss b := fun b e => .inr ⟨m, hlt, .inr e⟩
      refine ⟨⟨m + 1, by omega, by go_num, ?_, ?_, ((HB.out.trans (Kept.of_grown HG2.out hT1)).trans (Kept.of_grown HG4.out hT2)).trans (Kept.of_grown HG6.out hT3)⟩, by simp [intOf]; omega⟩
      · rw [HTK.out, HJ3.out, HJ.out]; simp only [onR]; congr 1; omega
      · rw [← HX.out]
        have hlx : ((mixT k m ss).set m (⟨(j : Int), (j1 : Int), marksI j2 (stp ss m).its.length, marks j3 (stp ss m).ts.length⟩, sti ss m, stq ss m)).length = ss.length := by rw [List.length_set, HLM.out]
        have hvs : ∀ i, sti ((mixT k m ss).set m (⟨(j : Int), (j1 : Int), marksI j2 (stp ss m).its.length, marks j3 (stp ss m).ts.length⟩, sti ss m, stq ss m)) i = sti (mixT k m ss) i ∧ stq ((mixT k m ss).set m (⟨(j : Int), (j1 : Int), marksI j2 (stp ss m).its.length, marks j3 (stp ss m).ts.length⟩, sti ss m, stq ss m)) i = stq (mixT k m ss) i := fun i => by
          have := stv_set (mixT k m ss) m i ⟨(j : Int), (j1 : Int), marksI j2 (stp ss m).its.length, marks j3 (stp ss m).ts.length⟩ (by rw [HLM.out]; exact hlt)
          rw [HTI.out.1, HTI.out.2] at this
          exact this
        refine ⟨?_, fun i hi => ?_, fun i i' hi hi' => ?_, fun i i' hi hi' => ?_⟩
        · rw [hlx]
          have := HR6.out
          rw [HTI.out.1, HTI.out.2] at this
          exact this
        · rw [hlx] at hi
          rw [(hvs i).1, (hvs i).2, stp_set _ _ _ _ (by rw [HLM.out]; exact hlt)]
          by_cases he : i = m
          · subst he
            rw [if_pos rfl, HTI.out.1, HTI.out.2]
            dsimp only
            refine ⟨?_, ?_, HEE.out.apart⟩
            · rw [marksI_len]; exact HI6.out
            · rw [marks_length]; exact HO6.out
          · rw [if_neg he]
            have h0 := HR.out.each i (by rw [HLM.out]; exact hi)
            have hA2 := HR.out.apartI i m (by rw [HLM.out]; exact hi) (by rw [HLM.out]; exact hlt) he
            have hA3 := HR.out.apartP i m (by rw [HLM.out]; exact hi) (by rw [HLM.out]; exact hlt) he
            have hrow := HR.out.row
            rw [HTI.out.1] at hA2
            rw [HTI.out.2] at hA3
            refine h0.same (fun b hb => ?_) (fun b hb => ?_)
            · have l1 := (h0.items.lt b hb).2
              have n1 : b ≠ g := fun e => row_other h0.items hrow (by decide) hb (by rw [e]; rfl)
              have s1 := HG2.out.size
              have s2 := HG4.out.size
              rw [HG6.out.block b (by omega) (fun e => row_other h0.items HEE.out.pins (by decide) hb e.symm), HG4.out.block b (by omega) (fun e => hA2 b hb e.symm), HG2.out.block b l1 (fun e => n1 (Option.some.inj e))]
            · have l1 := (h0.pins.lt b hb).2
              have n1 : b ≠ g := fun e => row_other h0.pins hrow (by decide) hb (by rw [e]; rfl)
              have s1 := HG2.out.size
              have s2 := HG4.out.size
              rw [HG6.out.block b (by omega) (fun e => hA3 b hb e.symm), HG4.out.block b (by omega) (fun e => row_other h0.pins HEE.out.items (by decide) hb e.symm), HG2.out.block b l1 (fun e => n1 (Option.some.inj e))]
        · rw [hlx] at hi hi'
          rw [(hvs i).1, (hvs i').1]
          exact HR.out.apartI i i' (by rw [HLM.out]; exact hi) (by rw [HLM.out]; exact hi')
        · rw [hlx] at hi hi'
          rw [(hvs i).2, (hvs i').2]
          exact HR.out.apartP i i' (by rw [HLM.out]; exact hi) (by rw [HLM.out]; exact hi')
    · obtain rfl : m = ss.length := by omega
      rw [mixT_all] at hr
      rw [List.take_length]
      have HR := hid hr
      have HB := hid hb
      clear hr hb
      go_wp2
      go_ret
      exact ⟨rfl, HR.out, HB.out⟩
end Go.Proofs.YtlnkhbnbcmllaaaGreat
