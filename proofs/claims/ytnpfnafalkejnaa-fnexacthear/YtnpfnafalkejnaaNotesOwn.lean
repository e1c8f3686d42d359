/- Notes in rows of their own. -/
import Derived.Test.YtnpfnafalkejnaaNoteReply
import Derived.Test.YtnpfnafalkejnaaMark2
namespace Go.Proofs.Ytnpfnafalkejnaa
open Go.RowKit
/-- A world in which only the blocks told by T, and new ones, have turned. -/
structure KeptN (w w' : World) (T : Nat → Prop) : Prop where
  os : w'.os = w.os
  tape : w'.tape = w.tape
  output : w'.output = w.output
  size : w.heap.size ≤ w'.heap.size
  block : ∀ k, k < w.heap.size → ¬ T k → w'.heap[k]? = w.heap[k]?
theorem KeptN.refl (w : World) (T : Nat → Prop) : KeptN w w T := ⟨rfl, rfl, rfl, Nat.le_refl _, fun _ _ _ => rfl⟩
theorem KeptN.trans {a b c : World} {T : Nat → Prop} (h : KeptN a b T) (k : KeptN b c T) : KeptN a c T :=
  ⟨k.os.trans h.os, k.tape.trans h.tape, k.output.trans h.output, Nat.le_trans h.size k.size, fun n hn ht => (k.block n (Nat.lt_of_lt_of_le hn h.size) ht).trans (h.block n hn ht)⟩
theorem KeptN.of_grown {a b : World} {o : Option Nat} {T : Nat → Prop} (h : a.grownBy b o) (ho : ∀ g, o = some g → T g) : KeptN a b T :=
  ⟨h.os, h.tape, h.output, h.size, fun k hk ht => h.block k hk (fun e => ht (ho k e.symm))⟩
theorem KeptN.of_below {a b : World} {T : Nat → Prop} (h : Below a.heap.size a b) : KeptN a b T := ⟨h.os, h.tape, h.output, h.size, fun k hk _ => h.block k hk⟩
theorem KeptN.below {a b : World} {T : Nat → Prop} {B : Nat} (h : KeptN a b T) (ht : ∀ g, T g → B ≤ g) (hB : B ≤ a.heap.size) : Below B a b :=
  ⟨h.os, h.tape, h.output, h.size, fun k hk => h.block k (Nat.lt_of_lt_of_le hk hB) (fun t => by have := ht k t; omega)⟩
theorem KeptN.mono {a b : World} {T T' : Nat → Prop} (h : KeptN a b T) (ht : ∀ g, T g → T' g) : KeptN a b T' := ⟨h.os, h.tape, h.output, h.size, fun k hk hn => h.block k hk (fun t => hn (ht k t))⟩
theorem nrow_far {w w' : World} {B n size b : Nat} {e : TypeId} {v : Value} {xs : List Value} (h : w.ownsRow B e size v n xs) (hg : w.grownBy w' (some b)) (hn : v.ownBlock ≠ some b) : w'.ownsRow B e size v n xs := h.kept hg (.inr hn)
theorem nrow_any {w : World} {base n size : Nat} {e : TypeId} {v : Value} {xs : List Value} (h : w.ownsRow base e size v n xs) : ∃ a cap, v = .slice a n cap := by
  rcases h with ⟨_, ⟨rfl, hn⟩ | ⟨g, cap, cur, rfl, _⟩⟩
  · exact ⟨none, 0, by rw [hn]⟩
  · exact ⟨_, cap, rfl⟩
theorem nrow_same {w w' : World} {B n size : Nat} {e : TypeId} {v : Value} {xs : List Value} (h : w.ownsRow B e size v n xs) (hs : ∀ g, v.ownBlock = some g → w'.heap[g]? = w.heap[g]?) : w'.ownsRow B e size v n xs := by
  obtain ⟨h1, h2⟩ := h
  refine ⟨h1, ?_⟩
  rcases h2 with h2 | ⟨g, cap, cur, e1, hb, hg, r⟩
  · exact .inl h2
  · exact .inr ⟨g, cap, cur, e1, hb, (hs g (by rw [e1]; rfl)).trans hg, r⟩
theorem nrow_base {w : World} {base base' size n : Nat} {e : TypeId} {v : Value} {xs : List Value} (h : w.ownsRow base e size v n xs) (hb : base' ≤ base) : w.ownsRow base' e size v n xs := by
  obtain ⟨h1, h2⟩ := h
  refine ⟨h1, ?_⟩
  rcases h2 with h2 | ⟨g, cap, cur, e1, hg, r⟩
  · exact .inl h2
  · exact .inr ⟨g, cap, cur, e1, Nat.le_trans hb hg, r⟩
abbrev NV := List (Nt × Value)
def mp (qs : NV) (i : Nat) : Nt := (qs.getD i (nt0, .slice none 0 0)).1
def mv (qs : NV) (i : Nat) : Value := (qs.getD i (nt0, .slice none 0 0)).2
abbrev nlist (x : Nt) (v : Value) : List Value := [.string x.f, .string x.t, .int .i64 x.c, .string x.m, .bool x.h, v]
def cellsN (qs : NV) : List Value := qs.flatMap fun q => nlist q.1 q.2
theorem cellsN_len : ∀ qs : NV, (cellsN qs).length = qs.length * 6
  | [] => rfl
  | q :: r => by
    have := cellsN_len r
    simp only [cellsN, List.flatMap_cons, List.length_append, List.length_cons, List.length_nil] at this ⊢
    omega
theorem cellsN_cons (q : Nt × Value) (r : NV) : cellsN (q :: r) = .string q.1.f :: .string q.1.t :: .int .i64 q.1.c :: .string q.1.m :: .bool q.1.h :: q.2 :: cellsN r := rfl
theorem cellsN_snoc (qs : NV) (x : Nt) (v : Value) : cellsN (qs ++ [(x, v)]) = cellsN qs ++ nlist x v := by
  unfold cellsN
  rw [List.flatMap_append]
  simp
structure M6 (l : List Value) (o : Nat) (x : Nt) (v : Value) : Prop where
  c0 : l[o]? = some (.string x.f)
  c1 : l[o + 1]? = some (.string x.t)
  c2 : l[o + 2]? = some (.int .i64 x.c)
  c3 : l[o + 3]? = some (.string x.m)
  c4 : l[o + 4]? = some (.bool x.h)
  c5 : l[o + 5]? = some v
theorem cellsN_at : ∀ (qs : NV) (i : Nat), i < qs.length → M6 (cellsN qs) (i * 6) (mp qs i) (mv qs i)
  | [], i, h => absurd h (by simp)
  | q :: r, 0, _ => by constructor <;> simp [cellsN, mp, mv]
  | q :: r, i + 1, h => by
    have ih := cellsN_at r i (by simpa using h)
    have hp : mp (q :: r) (i + 1) = mp r i := rfl
    have hv : mv (q :: r) (i + 1) = mv r i := rfl
    rw [show (i + 1) * 6 = i * 6 + 1 + 1 + 1 + 1 + 1 + 1 by omega, cellsN_cons, hp, hv]
    refine ⟨?_, ?_, ?_, ?_, ?_, ?_⟩
    · simpa using ih.c0
    · rw [show i * 6 + 1 + 1 + 1 + 1 + 1 + 1 + 1 = i * 6 + 1 + 1 + 1 + 1 + 1 + 1 + 1 from rfl]; simpa using ih.c1
    · rw [show i * 6 + 1 + 1 + 1 + 1 + 1 + 1 + 2 = i * 6 + 2 + 1 + 1 + 1 + 1 + 1 + 1 by omega]; simpa using ih.c2
    · rw [show i * 6 + 1 + 1 + 1 + 1 + 1 + 1 + 3 = i * 6 + 3 + 1 + 1 + 1 + 1 + 1 + 1 by omega]; simpa using ih.c3
    · rw [show i * 6 + 1 + 1 + 1 + 1 + 1 + 1 + 4 = i * 6 + 4 + 1 + 1 + 1 + 1 + 1 + 1 by omega]; simpa using ih.c4
    · rw [show i * 6 + 1 + 1 + 1 + 1 + 1 + 1 + 5 = i * 6 + 5 + 1 + 1 + 1 + 1 + 1 + 1 by omega]; simpa using ih.c5
theorem cellsN_set5 (qs : NV) (i : Nat) (x : Nt) (h : i < qs.length) : (((((cellsN qs).set (i * 6) (.string x.f)).set (i * 6 + 1) (.string x.t)).set (i * 6 + 2) (.int .i64 x.c)).set (i * 6 + 3) (.string x.m)).set (i * 6 + 4) (.bool x.h) = cellsN (qs.set i (x, mv qs i)) := by
  induction qs generalizing i with
  | nil => simp at h
  | cons q r ih =>
    cases i with
    | zero => simp [cellsN, mv]
    | succ i =>
      have := ih i (by simpa using h)
      have hv : mv (q :: r) (i + 1) = mv r i := rfl
      have hset : ∀ x, (q :: r).set (i + 1) x = q :: r.set i x := fun _ => rfl
      rw [cellsN_cons, hv, hset, cellsN_cons, ← this]
      rw [show (i + 1) * 6 = i * 6 + 1 + 1 + 1 + 1 + 1 + 1 by omega, show i * 6 + 1 + 1 + 1 + 1 + 1 + 1 + 2 = i * 6 + 2 + 1 + 1 + 1 + 1 + 1 + 1 by omega, show i * 6 + 1 + 1 + 1 + 1 + 1 + 1 + 3 = i * 6 + 3 + 1 + 1 + 1 + 1 + 1 + 1 by omega, show i * 6 + 1 + 1 + 1 + 1 + 1 + 1 + 4 = i * 6 + 4 + 1 + 1 + 1 + 1 + 1 + 1 by omega]
      simp only [List.set_cons_succ]
/-- Sums in a row of their own, if there are any. -/
def SumOwn (w : World) (B : Nat) (v : Value) (ss : List ByteArray) : Prop := (ss = [] ∧ ∃ a c, v = .slice a 0 c) ∨ (ss ≠ [] ∧ w.ownsRow B 9 1 v ss.length (ss.map Value.string))
theorem SumOwn.of_row {w : World} {B : Nat} {v : Value} {ss : List ByteArray} (h : w.ownsRow B 9 1 v ss.length (ss.map Value.string)) : SumOwn w B v ss := by
  by_cases e : ss = []
  · subst e
    obtain ⟨a, c, hv⟩ := nrow_any h
    exact .inl ⟨rfl, a, c, hv⟩
  · exact .inr ⟨e, h⟩
theorem SumOwn.form {w : World} {B : Nat} {v : Value} {ss : List ByteArray} (h : SumOwn w B v ss) : ∃ a c, v = .slice a ss.length c := by
  rcases h with ⟨rfl, a, c, e⟩ | ⟨_, h⟩
  · exact ⟨a, c, e⟩
  · exact nrow_any h
theorem SumOwn.reads {w : World} {B : Nat} {v : Value} {ss : List ByteArray} (h : SumOwn w B v ss) : Reads w v ss := by
  rcases h with ⟨rfl, a, c, rfl⟩ | ⟨_, h⟩
  · exact .inl ⟨rfl, a, c, rfl⟩
  · exact Reads.of_row h
/-- Notes in rows of their own. -/
structure NotesOwn (w : World) (B : Nat) (v : Value) (qs : NV) : Prop where
  row : w.ownsRow B 25 6 v qs.length (cellsN qs)
  sums : ∀ i, i < qs.length → SumOwn w B (mv qs i) (mp qs i).ss
  apart : ∀ i, i < qs.length → (mp qs i).ss ≠ [] → ∀ g, (mv qs i).ownBlock = some g → v.ownBlock ≠ some g
  apart2 : ∀ i j, i < qs.length → j < qs.length → i ≠ j → (mp qs i).ss ≠ [] → (mp qs j).ss ≠ [] → ∀ g, (mv qs i).ownBlock = some g → (mv qs j).ownBlock ≠ some g
theorem NotesOwn.nil (w : World) (B : Nat) : NotesOwn w B (.slice none 0 0) [] := ⟨World.ownsRow_nil _ _ _ _, fun i h => absurd h (by simp), fun i h => absurd h (by simp), fun i _ h => absurd h (by simp)⟩
def NBlk (v : Value) (qs : NV) (b : Nat) : Prop := v.ownBlock = some b ∨ ∃ i, i < qs.length ∧ (mp qs i).ss ≠ [] ∧ (mv qs i).ownBlock = some b
theorem NotesOwn.lt {w : World} {B : Nat} {v : Value} {qs : NV} (h : NotesOwn w B v qs) : ∀ b, NBlk v qs b → B ≤ b ∧ b < w.heap.size := fun b hb => by
  rcases hb with hb | ⟨i, hi, hn, hb⟩
  · exact h.row.lt b hb
  · rcases h.sums i hi with ⟨e, _⟩ | ⟨_, k⟩
    · exact absurd e hn
    · exact k.lt b hb
theorem NotesOwn.same {w w' : World} {B : Nat} {v : Value} {qs : NV} (h : NotesOwn w B v qs) (hs : ∀ b, NBlk v qs b → w'.heap[b]? = w.heap[b]?) : NotesOwn w' B v qs :=
  ⟨nrow_same h.row fun g e => hs g (.inl e), fun i hi => (h.sums i hi).imp id fun ⟨hn, k⟩ => ⟨hn, nrow_same k fun g e => hs g (.inr ⟨i, hi, hn, e⟩)⟩, h.apart, h.apart2⟩
theorem NotesOwn.below {w w' : World} {B : Nat} {v : Value} {qs : NV} (h : NotesOwn w B v qs) (hb : Below w.heap.size w w') : NotesOwn w' B v qs := h.same fun b hp => hb.block b (h.lt b hp).2
theorem NotesOwn.base {w : World} {B B' : Nat} {v : Value} {qs : NV} (h : NotesOwn w B v qs) (hb : B' ≤ B) : NotesOwn w B' v qs := ⟨nrow_base h.row hb, fun i hi => (h.sums i hi).imp id fun ⟨hn, k⟩ => ⟨hn, nrow_base k hb⟩, h.apart, h.apart2⟩
theorem NotesOwn.rdn {w : World} {B : Nat} {v : Value} {qs : NV} (h : NotesOwn w B v qs) : RdN w v (qs.map Prod.fst) := by
  have hr := h.row
  have hp : ∀ i, i < qs.length → natt (qs.map Prod.fst) i = mp qs i := fun i hi => by simp [natt, mp, hi]
  rcases h.row with ⟨_, ⟨rfl, h0⟩ | ⟨g, cap, cur, rfl, hb, hg, _⟩⟩
  · have : qs = [] := List.eq_nil_of_length_eq_zero h0
    subst this
    exact RdN.nil _ _ _
  · refine ⟨some ⟨g, 0, .none⟩, cap, by simp, fun i hi => ?_⟩
    have hi' : i < qs.length := by simpa using hi
    have hq := cellsN_at qs i hi'
    rw [hp i hi']
    refine ⟨g, 0, mv qs i, rfl, (Array.getElem?_eq_some_iff.1 hg).1, ?_, ?_, ?_, ?_, ?_, ?_, (h.sums i hi').reads⟩
    · rw [Nat.zero_add, hr.cellAt _ (by omega)]; exact hq.c0
    · rw [Nat.zero_add, hr.cellAt _ (by omega)]; exact hq.c1
    · rw [Nat.zero_add, hr.cellAt _ (by omega)]; exact hq.c2
    · rw [Nat.zero_add, hr.cellAt _ (by omega)]; exact hq.c3
    · rw [Nat.zero_add, hr.cellAt _ (by omega)]; exact hq.c4
    · rw [Nat.zero_add, hr.cellAt _ (by omega)]; exact hq.c5
theorem mp_init (qs : NV) (q : Nt × Value) (j : Nat) (h : j < qs.length) : mp (qs ++ [q]) j = mp qs j := by
  unfold mp
  rw [List.getD_eq_getElem?_getD, List.getElem?_append_left h, ← List.getD_eq_getElem?_getD]
theorem mp_last (qs : NV) (q : Nt × Value) : mp (qs ++ [q]) qs.length = q.1 := by simp [mp]
theorem mv_init (qs : NV) (q : Nt × Value) (j : Nat) (h : j < qs.length) : mv (qs ++ [q]) j = mv qs j := by
  unfold mv
  rw [List.getD_eq_getElem?_getD, List.getElem?_append_left h, ← List.getD_eq_getElem?_getD]
theorem mv_last (qs : NV) (q : Nt × Value) : mv (qs ++ [q]) qs.length = q.2 := by simp [mv]
/-- The first note. -/
theorem NotesOwn.one {w1 w2 : World} {B : Nat} {v' : Value} {x : Nt} {u : Value} (hB : B ≤ w1.heap.size) (hu : w1.ownsRow B 9 1 u x.ss.length (x.ss.map Value.string)) (hg : Below w1.heap.size w1 w2) (hr : w2.ownsRow w1.heap.size 25 6 v' 1 (nlist x u)) : NotesOwn w2 B v' [(x, u)] := by
  refine ⟨nrow_base hr hB, fun i hi => ?_, fun i hi _ g e e2 => ?_, fun i j hi hj hij => ?_⟩
  · have : i = 0 := by simpa using hi
    subst this
    exact SumOwn.of_row (Below.row hg hu)
  · have : i = 0 := by simpa using hi
    subst this
    have k1 := (hu.lt g e).2
    have k2 := (hr.lt g e2).1
    omega
  · have h1 : i = 0 := by simpa using hi
    have h2 : j = 0 := by simpa using hj
    omega
/-- One note more, where none has sums. -/
theorem NotesOwn.more {w w2 : World} {B : Nat} {v v' : Value} {qs : NV} {x : Nt} {u : Value} (h : NotesOwn w B v qs) (he : ∀ i, i < qs.length → (mp qs i).ss = []) (hx : x.ss = []) (hu : ∃ a c, u = .slice a 0 c) (hr : w2.ownsRow B 25 6 v' (qs.length + 1) (cellsN qs ++ nlist x u)) : NotesOwn w2 B v' (qs ++ [(x, u)]) := by
  have hl : (qs ++ [(x, u)]).length = qs.length + 1 := by simp
  have hkb : ∀ i, i < qs.length + 1 → i = qs.length ∨ i < qs.length := fun i hi => by omega
  have all : ∀ i, i < (qs ++ [(x, u)]).length → (mp (qs ++ [(x, u)]) i).ss = [] := fun i hi => by
    rw [hl] at hi
    rcases hkb i hi with rfl | hi'
    · rw [mp_last]; exact hx
    · rw [mp_init _ _ _ hi']; exact he i hi'
  refine ⟨by rw [hl, cellsN_snoc]; exact hr, fun i hi => ?_, fun i hi hn => absurd (all i hi) hn, fun i j hi hj _ hn => absurd (all i hi) hn⟩
  refine .inl ⟨all i hi, ?_⟩
  rw [hl] at hi
  rcases hkb i hi with rfl | hi'
  · rw [mv_last]; exact hu
  · rw [mv_init _ _ _ hi']
    have := (h.sums i hi').form
    rw [he i hi'] at this
    exact this
theorem Try.infoNote : (Try.prog.info? 25).map (fun i => (i.zero, i.size, i.bytes)) = some (some (.agg #[.string ⟨#[]⟩, .string ⟨#[]⟩, .int .i64 0, .string ⟨#[]⟩, .bool false, .slice none 0 0]), 6, 88) := by kernel_rfl
theorem six_new (w : World) (a b c d f g : Value) (t : TypeId) : ∀ j u, [a, b, c, d, f, g][j]? = some u → (w.alloc (.cells #[a, b, c, d, f, g] t)).cell? ((⟨w.heap.size, 0, none⟩ : Addr).add j) = some u := by
  intro j u hj
  have e : (⟨w.heap.size, 0, none⟩ : Addr).add j = ⟨w.heap.size, j, none⟩ := by simp [Addr.add]; intro h; exact h.symm
  rw [e, World.cell?_alloc_new]
  simpa using hj
end Go.Proofs.Ytnpfnafalkejnaa
