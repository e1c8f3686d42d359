import Derived.Test.YtffpdgpcjgfgcaaGreatDoorPutMath
import Derived.Test.YtffpdgpcjgfgcaaGreatDoorShelfStore
import Derived.Test.YtffpdgpcjgfgcaaGreatDoorMark2
import Derived.Maps.Range
import Derived.Test.YtffpdgpcjgfgcaaGreatDoorHeld
import Derived.OrdersHeld
import Derived.BigRegion
/- The row of what may leave; frames with some blocks left out. -/
namespace Go.Proofs.YtffpdgpcjgfgcaaGreatDoor
open Go.RowKit
/-- All blocks but some are as they were. -/
structure But (P : Nat → Prop) (w w' : World) : Prop where
  os : w'.os = w.os
  tape : w'.tape = w.tape
  output : w'.output = w.output
  size : w.heap.size ≤ w'.heap.size
  block : ∀ b, b < w.heap.size → ¬ P b → w'.heap[b]? = w.heap[b]?
theorem But.refl (P : Nat → Prop) (w : World) : But P w w := ⟨rfl, rfl, rfl, Nat.le_refl _, fun _ _ _ => rfl⟩
theorem But.of_grown {P : Nat → Prop} {w w' : World} {b : Nat} (h : w.grownBy w' (some b)) (hP : P b) : But P w w' := ⟨h.os, h.tape, h.output, h.size, fun k hk hn => h.block k hk (fun e => hn (by cases e; exact hP))⟩
theorem But.of_none {P : Nat → Prop} {w w' : World} (h : w.grownBy w' none) : But P w w' := ⟨h.os, h.tape, h.output, h.size, fun k hk _ => h.block k hk (by simp)⟩
theorem But.of_below {P : Nat → Prop} {w w' : World} (h : Below w.heap.size w w') : But P w w' := ⟨h.os, h.tape, h.output, h.size, fun k hk _ => h.block k hk⟩
theorem But.trans {P Q : Nat → Prop} {a b c : World} (h : But P a b) (k : But Q b c) (hQ : ∀ i, i < a.heap.size → Q i → P i) : But P a c :=
  ⟨k.os.trans h.os, k.tape.trans h.tape, k.output.trans h.output, Nat.le_trans h.size k.size, fun i hi hn => (k.block i (Nat.lt_of_lt_of_le hi h.size) (fun q => hn (hQ i hi q))).trans (h.block i hi hn)⟩
theorem But.below {P : Nat → Prop} {w w' : World} {B : Nat} (h : But P w w') (hB : B ≤ w.heap.size) (hP : ∀ b, P b → B ≤ b) : Below B w w' :=
  ⟨h.os, h.tape, h.output, h.size, fun k hk => h.block k (by omega) (fun p => by have := hP k p; omega)⟩
theorem But.blk {P : Nat → Prop} {w w' : World} (h : But P w w') {b : Nat} {T : TypeId} {cs : Array Value} (hb : Blk w b T cs) (hn : ¬ P b) : Blk w' b T cs := (h.block b hb.lt hn).trans hb
theorem But.row {P : Nat → Prop} {w w' : World} (h : But P w w') {B size n : Nat} {e : TypeId} {v : Value} {xs : List Value} (hr : w.ownsRow B e size v n xs) (hn : ∀ g, v.ownBlock = some g → ¬ P g) : w'.ownsRow B e size v n xs := by
  obtain ⟨h1, h2 | ⟨g, cap, cur, e1, e2, e3, e4, e5, e6, e7⟩⟩ := hr
  · exact ⟨h1, .inl h2⟩
  · subst e1
    exact ⟨h1, .inr ⟨g, cap, cur, rfl, e2, (h.block g (Array.getElem?_eq_some_iff.1 e3).1 (hn g rfl)).trans e3, e4, e5, e6, e7⟩⟩
theorem But.map {P : Nat → Prop} {w w' : World} (h : But P w w') {Pr : Program} {k : TypeId} {R : Value → Option (DataW Unit × List MemPlace)} {b n : Nat} {D : DataW Unit} (hm : w.ownsMap Pr k R b n D) (hn : ¬ P b) : w'.ownsMap Pr k R b n D := by
  have hlt := hm.lt
  obtain ⟨es, clock, e1, e2⟩ := hm
  exact ⟨es, clock, (h.block b hlt hn).trans e1, e2⟩
theorem But.ranges {P : Nat → Prop} {w w' : World} (h : But P w w') {Pr : Program} {k : TypeId} {R : Value → Option (DataW Unit × List MemPlace)} {b r n : Nat} {D : DataW Unit} {left : Lit → Bool} {cnt : Nat} (hm : w.ranges Pr k R b r n D left cnt) (hb : ¬ P b) (hr : ¬ P r) : w'.ranges Pr k R b r n D left cnt := by
  have hl1 := hm.owns.lt
  have hl2 := hm.lt
  obtain ⟨es, clock, since, seen, c0, e1, e2, e3, e4, e5, e6⟩ := hm
  exact ⟨es, clock, since, seen, c0, (h.block b hl1 hb).trans e1, e2, e3, e4, (h.block r hl2 hr).trans e5, e6⟩
theorem But.mono {P Q : Nat → Prop} {w w' : World} (h : But P w w') (hPQ : ∀ b, b < w.heap.size → P b → Q b) : But Q w w' := ⟨h.os, h.tape, h.output, h.size, fun b hb hn => h.block b hb (fun p => hn (hPQ b hb p))⟩
/-! The row -/
def LRow (w : World) (B : Nat) (v : Value) (hs : List Lv) : Prop := w.ownsRow B 101 2 v hs.length (cellsI hs)
theorem itx_hv (hs : List Lv) (i : Nat) : itx hs i = (hv hs i).1 := rfl
theorem itu_hv (hs : List Lv) (i : Nat) : itu hs i = (hv hs i).2 := rfl
theorem LRow.nil (w : World) (B : Nat) : LRow w B (.slice none 0 0) [] := World.ownsRow_nil _ _ _ _
theorem LRow.far {w w' : World} {B b : Nat} {v : Value} {hs : List Lv} (h : LRow w B v hs) (hg : w.grownBy w' (some b)) (hn : v.ownBlock ≠ some b) : LRow w' B v hs := World.ownsRow.kept h hg (.inr hn)
theorem LRow.below {w w' : World} {B : Nat} {v : Value} {hs : List Lv} (h : LRow w B v hs) (hb : Below w.heap.size w w') : LRow w' B v hs := World.ownsRow.kept h (grown_of_below hb) (by cases hv : v.ownBlock <;> simp)
theorem LRow.form {w : World} {B : Nat} {v : Value} {hs : List Lv} (h : LRow w B v hs) (h0 : 0 < hs.length) : ∃ g cap, v = .slice (some ⟨g, 0, none⟩) hs.length cap ∧ B ≤ g ∧ g < w.heap.size := by
  obtain ⟨_, ⟨_, e⟩ | ⟨g, cap, cur, e1, e2, e3, _⟩⟩ := h
  · omega
  · exact ⟨g, cap, e1, e2, (Array.getElem?_eq_some_iff.1 e3).1⟩
theorem LRow.cell {w : World} {B g n cap : Nat} {hs : List Lv} (h : LRow w B (.slice (some ⟨g, 0, none⟩) n cap) hs) (i : Nat) (hi : i < hs.length) : w.cell? ⟨g, i * 2, none⟩ = some (.string (hv hs i).1) ∧ w.cell? ⟨g, i * 2 + 1, none⟩ = some (.int .i64 (hv hs i).2) := by
  obtain ⟨c0, c1⟩ := cellsI_at hs i hi
  have e : ∀ j, (⟨g, 0, none⟩ : Addr).add j = ⟨g, j, none⟩ := fun j => by simp [Addr.add]; intro h; exact h.symm
  have k := World.ownsRow.cells h (g := g) rfl
  refine ⟨?_, ?_⟩
  · rw [← e]; exact k _ _ c0
  · rw [← e]; exact k _ _ c1
theorem LRow.fz {w : World} {B g n cap : Nat} {hs : List Lv} (h : LRow w B (.slice (some ⟨g, 0, none⟩) n cap) hs) (i : Nat) : w.frozen? ⟨g, i, none⟩ = false := by
  obtain ⟨_, ⟨e, _⟩ | ⟨g', cap', cur, e1, e2, e3, _⟩⟩ := h
  · cases e
  · cases e1
    exact Blk.fz (T := 101) (cs := cur) e3 i
theorem cellsL_set2 : ∀ (hs : List Lv) (i : Nat) (a : ByteArray) (u : Int), i < hs.length → ((cellsI hs).set (i * 2) (.string a)).set (i * 2 + 1) (.int .i64 u) = cellsI (hs.set i (a, u))
  | [], _, _, _, h => absurd h (by simp)
  | p :: r, 0, a, u, _ => by simp [cellsI]
  | p :: r, i + 1, a, u, h => by
    have ih := cellsL_set2 r i a u (by simpa using h)
    have e1 : (i + 1) * 2 = i * 2 + 2 := by omega
    have e2 : (i + 1) * 2 + 1 = (i * 2 + 1) + 2 := by omega
    show ((Value.string p.1 :: Value.int .i64 p.2 :: cellsI r).set ((i + 1) * 2) (.string a)).set ((i + 1) * 2 + 1) (.int .i64 u) = Value.string p.1 :: Value.int .i64 p.2 :: cellsI (r.set i (a, u))
    rw [e2, e1]
    simp only [List.set_cons_succ]
    rw [ih]
/-- One place of the row, stored anew. -/
theorem LRow.set {w : World} {B g n cap : Nat} {hs : List Lv} (h : LRow w B (.slice (some ⟨g, 0, none⟩) n cap) hs) (i : Nat) (hi : i < hs.length) (a : ByteArray) (u : Int) : LRow ((w.setCell ⟨g, i * 2, none⟩ (.string a)).setCell ⟨g, i * 2 + 1, none⟩ (.int .i64 u)) B (.slice (some ⟨g, 0, none⟩) n cap) (hs.set i (a, u)) := by
  obtain ⟨h1, ⟨e, _⟩ | ⟨g', cap', cur, e1, e2, e3, e4, e5, e6, e7⟩⟩ := h
  · cases e
  · cases e1
    have b1 := Blk.set (Blk.set (show Blk w g 101 cur from e3) (i * 2) (.string a)) (i * 2 + 1) (.int .i64 u)
    refine ⟨by rw [cellsI_len, List.length_set], .inr ⟨g, cap, _, by rw [List.length_set], e2, b1, by rw [List.length_set]; exact e4, e5, by simp [e6], ?_⟩⟩
    rw [List.length_set, Array.toList_setIfInBounds, Array.toList_setIfInBounds, List.take_set, List.take_set, e7, cellsL_set2 hs i a u hi]
/-- One fewer. -/
theorem LRow.take {w : World} {B g n cap : Nat} {hs : List Lv} (h : LRow w B (.slice (some ⟨g, 0, none⟩) n cap) hs) (k : Nat) (hk : k ≤ hs.length) : LRow w B (.slice (some ⟨g, 0, none⟩) k cap) (hs.take k) := by
  obtain ⟨h1, ⟨e, _⟩ | ⟨g', cap', cur, e1, e2, e3, e4, e5, e6, e7⟩⟩ := h
  · cases e
  · cases e1
    have hl : (hs.take k).length = k := by simp; omega
    refine ⟨by rw [cellsI_len], .inr ⟨g, cap, cur, by rw [hl], e2, e3, by omega, e5, e6, ?_⟩⟩
    have e8 : cellsI (hs.take k) = (cellsI hs).take (k * 2) := by
      have e9 := cellsI_len (hs.take k)
      rw [hl] at e9
      have e10 : cellsI hs = cellsI (hs.take k) ++ cellsI (hs.drop k) := by
        conv => lhs; rw [← List.take_append_drop k hs]
        unfold cellsI
        rw [List.flatMap_append]
      rw [e10, ← e9, List.take_left]
    rw [hl, e8, ← e7, List.take_take]
    congr 1
    omega
end Go.Proofs.YtffpdgpcjgfgcaaGreatDoor
/- impl.leavesFirst and (*impl.heap).push. -/
namespace Go.Proofs.YtffpdgpcjgfgcaaGreatDoor
open Go.RowKit
set_option maxRecDepth 100000 in
set_option maxHeartbeats 1000000 in
theorem leavesFirst_any (a b : Lv) (w : World) :
    Calls Tryz.prog 97 #[.agg #[.string a.1, .int .i64 a.2], .agg #[.string b.1, .int .i64 b.2]] w fun e w' => e = .returned (.bool (lfB a b)) ∧ Below w.heap.size w w' := by
  obtain ⟨sa, ua⟩ := a
  obtain ⟨sb, ub⟩ := b
  have HA := hid (((Below.refl w.heap.size w).alloc (Nat.le_refl _) (.cells #[.string sa, .int .i64 ua] 101)).alloc (by simp) (.cells #[.string sb, .int .i64 ub] 101))
  have HE := hid (show lfB (sa, ua) (sb, ub) = (decide (ua < ub) || (decide (ua = ub) && Op.bytesLess sa.toList sb.toList)) from rfl)
  by_cases h1 : ua < ub
  · have HR : Hid (lfB (sa, ua) (sb, ub) = true) := hid (by rw [HE.out]; simp [h1])
    clear HE
    go_enter Tryz.func97, Tryz.ntmps97
    go_wp2
    go_ret
    exact ⟨by rw [HR.out]; rfl, HA.out⟩
  · by_cases h2 : ua = ub
    · subst h2
      cases h3 : Op.bytesLess sa.toList sb.toList with
      | true =>
        have HR : Hid (lfB (sa, ua) (sb, ua) = true) := hid (by rw [HE.out]; simp [h3])
        clear HE
        go_enter Tryz.func97, Tryz.ntmps97
        go_wp2
        go_ret
        exact ⟨by rw [HR.out]; rfl, HA.out⟩
      | false =>
        have HR : Hid (lfB (sa, ua) (sb, ua) = false) := hid (by rw [HE.out]; simp [h3])
        clear HE
        go_enter Tryz.func97, Tryz.ntmps97
        go_wp2
        go_ret
        exact ⟨by rw [HR.out]; rfl, HA.out⟩
    · have HR : Hid (lfB (sa, ua) (sb, ub) = false) := hid (by rw [HE.out]; simp [h1, h2])
      clear HE
      go_enter Tryz.func97, Tryz.ntmps97
      go_wp2
      go_ret
      exact ⟨by rw [HR.out]; rfl, HA.out⟩
abbrev fFirst : Value := .func (.func 97) #[] #[]
theorem Tryz.infoLeaver : (Tryz.prog.info? 101).map (fun i => (i.zero, i.size, i.bytes)) = some (some (.agg #[.string ⟨#[]⟩, .int .i64 0]), 2, 24) := by kernel_rfl
end Go.Proofs.YtffpdgpcjgfgcaaGreatDoor
/- A region whose last operation writes what its loads read: the condition on the world is asked behind every operation but that last one. -/
namespace Go.Proofs.YtffpdgpcjgfgcaaGreatDoor
open Go
section
variable {P : Program} {ops : Array Oper} {Q : Exit → Act → World → Prop} {md : Region.Mode} {S : World → Prop} {m : Nat}
/-- Whether an operation waits for another one, by some way of so many steps. -/
def waits (md : Region.Mode) (ops : Array Oper) : Nat → Nat → Nat → Bool
  | 0, _, _ => false
  | f + 1, j, i => (match ops[j]? with
    | some o => o.after.any fun e => Region.binds md e && (e.on == i || waits md ops f e.on i)
    | none => false)
/-- Who has come up came up behind all that it waits for. -/
def Closed (md : Region.Mode) (ops : Array Oper) (listed : Array Bool) : Prop := ∀ (j : Nat) (o : Oper), ops[j]? = some o → listed.getD j false = true → ∀ e ∈ o.after, Region.binds md e = true → listed.getD e.on false = true
theorem any_after {o : Oper} {p : Edge → Bool} (h : o.after.any p = true) : ∃ e, e ∈ o.after ∧ p e = true := by
  rw [Array.any_eq_true] at h
  obtain ⟨i, hi, hp⟩ := h
  exact ⟨o.after[i], Array.getElem_mem hi, hp⟩
theorem Closed.all {listed : Array Bool} (h : Closed md ops listed) : ∀ (f j i : Nat), waits md ops f j i = true → listed.getD j false = true → listed.getD i false = true
  | 0, _, _, hw, _ => by simp [waits] at hw
  | f + 1, j, i, hw, hj => by
    unfold waits at hw
    cases ho : ops[j]? with
    | none => rw [ho] at hw; simp at hw
    | some o =>
      rw [ho] at hw
      obtain ⟨e, he, hp⟩ := any_after hw
      rw [Bool.and_eq_true, Bool.or_eq_true] at hp
      have h1 := h j o ho hj e he hp.1
      rcases hp.2 with h2 | h2
      · rw [beq_iff_eq] at h2
        rw [← h2]; exact h1
      · exact h.all f e.on i h2 h1
theorem Closed.ready {listed : Array Bool} (h : Closed md ops listed) {f j i : Nat} (hr : j ∈ Region.ready md ops listed) (hw : waits md ops f j i = true) : listed.getD i false = true := by
  cases f with
  | zero => simp [waits] at hw
  | succ f =>
    unfold waits at hw
    obtain ⟨_, o, ho, hall⟩ := mem_ready.1 hr
    rw [ho] at hw
    obtain ⟨e, he, hp⟩ := any_after hw
    rw [Bool.and_eq_true, Bool.or_eq_true] at hp
    have h1 := hall e he hp.1
    rcases hp.2 with h2 | h2
    · rw [beq_iff_eq] at h2
      rw [← h2]; exact h1
    · exact h.all f e.on i h2 h1
theorem Closed.step {listed : Array Bool} (h : Closed md ops listed) {j : Nat} (hr : j ∈ Region.ready md ops listed) : Closed md ops (listed.setIfInBounds j true) := by
  intro k o ho hk e he hb
  have keep : ∀ n, listed.getD n false = true → (listed.setIfInBounds j true).getD n false = true := fun n hn => by
    by_cases e : j = n
    · subst e
      have hl : j < listed.size := by
        apply Classical.byContradiction
        intro hl
        simp [Array.getD_eq_getD_getElem?, Array.getElem?_eq_none (Nat.le_of_not_lt hl)] at hn
      simp [Array.getD_eq_getD_getElem?, hl]
    · rw [getD_set_ne false e]; exact hn
  by_cases ek : j = k
  · subst ek
    obtain ⟨_, o', ho', hall⟩ := mem_ready.1 hr
    obtain rfl := Option.some.inj (ho.symm.trans ho')
    exact keep _ (hall e he hb)
  · rw [getD_set_ne false ek] at hk
    exact keep _ (h k o ho hk e he hb)
theorem Closed.start (n : Nat) : Closed md ops (Array.replicate n false) := fun j o _ hj => by
  rw [Array.getD_eq_getD_getElem?, Array.getElem?_replicate] at hj
  split at hj <;> simp at hj
/-- Whatever order is picked from here on, and 'S' holds behind every operation that is carried out, but the last one. -/
def wpAnyL (P : Program) (md : Region.Mode) (ops : Array Oper) (Q : Exit → Act → World → Prop) (S : World → Prop) (m : Nat) : Nat → Array Bool → Act → World → Prop
  | 0, listed, a, w => Region.ready md ops listed = [] ∧ Q .normal a w
  | fuel + 1, listed, a, w =>
    (Region.ready md ops listed = [] → Q .normal a w) ∧
    ∀ i ∈ Region.ready md ops listed, wpOp P ops Q i (fun a' w' => (i ≠ m → S w') ∧ wpAnyL P md ops Q S m fuel (listed.setIfInBounds i true) a' w') a w
theorem wpAny_of_last : ∀ (fuel : Nat) (listed : Array Bool) (a : Act) (w : World), wpAnyL P md ops Q S m fuel listed a w → wpAny P md ops Q fuel listed a w
  | 0, _, _, _, h => h
  | fuel + 1, _, _, _, h => ⟨h.1, fun i hi => wpOp_mono (fun a' w' h' => wpAny_of_last fuel _ a' w' h'.2) (h.2 i hi)⟩
theorem wpAnyL_first {i : Nat} {oi : Oper} {v : Value} (hi : ops[i]? = some oi) (hsel : ∀ (j : Nat) (o : Oper) cs b, ops[j]? = some o → o.op ≠ .select cs b)
    (hQ : ∀ c a w, Q (.panic c) (a.put oi.dst v) w → Q (.panic c) a w) (hlast : ∃ f, waits md ops f m i = true) :
    ∀ (fuel : Nat) (listed : Array Bool) (a : Act) (w : World), Closed md ops listed →
      (∀ j oj, ops[j]? = some oj → j ≠ i → listed.getD j true = false → (∀ e ∈ oj.after, Region.binds md e = true → e.on ≠ i) → oi.apart ops oj = true) →
      i ∈ Region.ready md ops listed → YieldsIf P ops S oi v a → S w →
      wpAnyL P md ops Q S m fuel (listed.setIfInBounds i true) (a.put oi.dst v) w → wpAnyL P md ops Q S m (fuel + 1) listed a w := by
  intro fuel
  induction fuel with
  | zero =>
    intro listed a w _ _ hr hy hS H
    refine ⟨fun h => (by rw [h] at hr; cases hr), fun j hj => ?_⟩
    by_cases hji : j = i
    · subst hji; exact hy.wpOp hi hS ⟨fun _ => hS, H⟩
    · have := ready_mono hj hji
      rw [H.1] at this
      cases this
  | succ fuel ih =>
    intro listed a w hcl hfree hr hy hS H
    refine ⟨fun h => (by rw [h] at hr; cases hr), fun j hj => ?_⟩
    by_cases hji : j = i
    · subst hji; exact hy.wpOp hi hS ⟨fun _ => hS, H⟩
    · have hjm : j ≠ m := fun e => by
        subst e
        obtain ⟨f, hw⟩ := hlast
        have h1 := hcl.ready hj hw
        have h0 := (mem_ready.1 hr).1
        rcases Nat.lt_or_ge i listed.size with h' | h'
        · simp [h'] at h0 h1; rw [h0] at h1; cases h1
        · simp [Array.getElem?_eq_none h'] at h1
      have h1 := H.2 j (ready_mono hj hji)
      obtain ⟨hjun, oj, hoj, hall⟩ := mem_ready.1 hj
      have hnot : ∀ e ∈ oj.after, Region.binds md e = true → e.on ≠ i := fun e he hb heq => by
        have h1 := hall e he hb
        have h0 := (mem_ready.1 hr).1
        rw [heq] at h1
        rcases Nat.lt_or_ge i listed.size with h' | h'
        · simp [h'] at h0 h1; rw [h0] at h1; cases h1
        · simp [Array.getElem?_eq_none h'] at h1
      have h2 := wpOp_putIf hoj (hfree j oj hoj hji hjun hnot) (fun cs b => hsel i oi cs b hi) (fun cs b => hsel j oj cs b hoj) hQ hy h1
      have hfree' : ∀ k ok, ops[k]? = some ok → k ≠ i → (listed.setIfInBounds j true).getD k true = false →
          (∀ e ∈ ok.after, Region.binds md e = true → e.on ≠ i) → oi.apart ops ok = true := fun k ok hk hki hun hno => by
        refine hfree k ok hk hki ?_ hno
        by_cases hjk : j = k
        · subst hjk; exact hjun
        · rw [getD_set_ne true hjk] at hun; exact hun
      refine wpOp_mono (fun a' w' h3 => ⟨h3.2.1, ih (listed.setIfInBounds j true) a' w' (hcl.step hj) hfree' (ready_mono hr (Ne.symm hji)) h3.1 (h3.2.1 hjm) ?_⟩) h2
      rw [Array.setIfInBounds_comm _ _ hji]
      exact h3.2.2
/-- The states of a walk carry that they are closed. -/
def wpAnyC (P : Program) (md : Region.Mode) (ops : Array Oper) (Q : Exit → Act → World → Prop) (S : World → Prop) (m fuel : Nat) (listed : Array Bool) (a : Act) (w : World) : Prop := Closed md ops listed → wpAnyL P md ops Q S m fuel listed a w
theorem lastH_take {i : Nat} {oi : Oper} {v : Value} {fuel : Nat} {listed : Array Bool} {a : Act} {w : World} (f : Nat) (hi : ops[i]? = some oi)
    (hs : Region.noSelect ops = true) (hf : Region.free md ops listed i = true) (hr : (Region.ready md ops listed).contains i = true) (hw : waits md ops f m i = true)
    (hQ : ∀ c a w, Q (.panic c) (a.put oi.dst v) w → Q (.panic c) a w) (hy : YieldsIf P ops S oi v a) (hS : S w)
    (h : wpAnyC P md ops Q S m fuel (listed.setIfInBounds i true) (a.put oi.dst v) w) : wpAnyC P md ops Q S m (fuel + 1) listed a w := fun hcl =>
  wpAnyL_first hi (Region.noSelect_spec hs) hQ ⟨f, hw⟩ fuel listed a w hcl (Region.free_spec hi hf) (by simpa using hr) hy hS (h (hcl.step (by simpa using hr)))
theorem lastH_all {rs : List Nat} {fuel : Nat} {listed : Array Bool} {a : Act} {w : World} (hr : Region.ready md ops listed = rs) (hne : rs ≠ [])
    (h : ∀ i ∈ rs, wpOp P ops Q i (fun a' w' => (i ≠ m → S w') ∧ wpAnyC P md ops Q S m fuel (listed.setIfInBounds i true) a' w') a w) : wpAnyC P md ops Q S m (fuel + 1) listed a w := fun hcl =>
  ⟨fun h0 => absurd (hr ▸ h0) hne, fun i hi => wpOp_mono (fun _ _ h' => ⟨h'.1, h'.2 (hcl.step hi)⟩) (h i (hr ▸ hi))⟩
theorem last_one (i : Nat) {fuel : Nat} {listed : Array Bool} {a : Act} {w : World} (hr : Region.ready md ops listed = [i]) (h : wpOp P ops Q i (fun a' w' => (i ≠ m → S w') ∧ wpAnyC P md ops Q S m fuel (listed.setIfInBounds i true) a' w') a w) : wpAnyC P md ops Q S m (fuel + 1) listed a w :=
  lastH_all hr (by simp) (by intro j hj; rw [List.mem_singleton] at hj; subst hj; exact h)
theorem last_two (i j : Nat) {fuel : Nat} {listed : Array Bool} {a : Act} {w : World} (hr : Region.ready md ops listed = [i, j]) (h : wpOp P ops Q i (fun a' w' => (i ≠ m → S w') ∧ wpAnyC P md ops Q S m fuel (listed.setIfInBounds i true) a' w') a w)
    (h' : wpOp P ops Q j (fun a' w' => (j ≠ m → S w') ∧ wpAnyC P md ops Q S m fuel (listed.setIfInBounds j true) a' w') a w) : wpAnyC P md ops Q S m (fuel + 1) listed a w :=
  lastH_all hr (by simp) (by
    intro k hk
    simp only [List.mem_cons, List.not_mem_nil, or_false] at hk
    rcases hk with rfl | rfl
    · exact h
    · exact h')
theorem last_done {listed : Array Bool} {a : Act} {w : World} (hr : Region.ready md ops listed = []) (h : Q .normal a w) (fuel : Nat) : wpAnyC P md ops Q S m fuel listed a w := fun _ => by
  cases fuel with
  | zero => exact ⟨hr, h⟩
  | succ n => exact ⟨fun _ => h, by rw [hr]; simp⟩
theorem wp_region_last (m : Nat) {id : Nat} {a : Act} {w : World} (hm : P.follows .mixedOrders = true)
    (h : wpAnyC P .any ops Q S m ops.size (Array.replicate ops.size false) a { w with drawn := w.drawn + 1 }) : (Code.region id ops true).wp P Q a w :=
  wp_region_any hm (wpAny_of_last _ _ _ _ (h (Closed.start _)))
end
end Go.Proofs.YtffpdgpcjgfgcaaGreatDoor
/- (*impl.heap).push. -/
namespace Go.Proofs.YtffpdgpcjgfgcaaGreatDoor
open Go.RowKit
/-- What push leaves. -/
def PushR (hb B : Nat) (v : Value) (hs : List Lv) (l : Lv) (w : World) (w' : World) : Prop :=
  ∃ v' hs', hs'.Perm (l :: hs) ∧ HpL hs' ∧ Blk w' hb 129 #[v', fFirst] ∧ LRow w' B v' hs' ∧ But (fun b => b = hb ∨ v.ownBlock = some b) w w'
set_option maxRecDepth 100000 in
set_option maxHeartbeats 8000000 in
theorem heapPush_any (hb B : Nat) (v : Value) (hs : List Lv) (s : ByteArray) (u : Int) (w : World) (hbx : Blk w hb 129 #[v, fFirst]) (hrow : LRow w B v hs) (hne : hb < B) (hp : HpL hs) (hlen : hs.length ≤ 1000) (hBw : B ≤ w.heap.size) :
    Calls Tryz.prog 98 #[.pointer (some ⟨hb, 0, none⟩), .agg #[.string s, .int .i64 u]] w fun e w' => e = .returned (.tuple #[]) ∧ PushR hb B v hs (s, u) w w' := by
  obtain ⟨i0, hi0, hz0, hz1, hz2⟩ := info_parts Tryz.infoLeaver
  obtain ⟨av, cv, rfl⟩ := row_any hrow
  have hA := (Below.refl w.heap.size w).alloc (Nat.le_refl _) (.cells #[.string s, .int .i64 u] 101)
  have HB0 := hid hbx
  have HR0 := hid hrow
  have HP := hid hp
  have HN := hid (Blk.new w 101 #[.string s, .int .i64 u])
  have HX := hid (hbx.below hA)
  have HR := hid (World.ownsRow.alloc hrow (.cells #[.string s, .int .i64 u] 101))
  have hbl := hbx.lt
  have x0 : (w.alloc (.cells #[.string s, .int .i64 u] 101)).drew.cell? ⟨hb, 0, none⟩ = some (.slice av hs.length cv) := (hbx.below hA).cell 0
  have hS0 : (w.alloc (.cells #[.string s, .int .i64 u] 101)).drew.cell? ⟨w.heap.size, 0, none⟩ = some (.string s) ∧ (w.alloc (.cells #[.string s, .int .i64 u] 101)).drew.cell? ⟨w.heap.size, 1, none⟩ = some (.int .i64 u) ∧ (w.alloc (.cells #[.string s, .int .i64 u] 101)).drew.cell? ⟨hb, 0, none⟩ = some (.slice av hs.length cv) := ⟨HN.out.cell 0, HN.out.cell 1, HX.out.cell 0⟩
  clear hbx hrow hp hA x0
  go_enter Tryz.func98, Tryz.ntmps98
  go_wp2_with fail
  refine wp_region_last 10 (S := fun w' => w'.cell? ⟨w.heap.size, 0, none⟩ = some (.string s) ∧ w'.cell? ⟨w.heap.size, 1, none⟩ = some (.int .i64 u) ∧ w'.cell? ⟨hb, 0, none⟩ = some (.slice av hs.length cv)) (by kernel_rfl) ?_
  change wpAnyC _ _ _ _ _ _ _ _ _ (World.drew _)
  refine lastH_take (i := 0) (v := .pointer (some ⟨hb, 0, none⟩)) 12 rfl (by kernel_rfl) (by kernel_rfl) (by kernel_rfl) (by kernel_rfl) (fun _ _ _ h => h) (.inl ⟨rfl, fun w' hS => by obtain ⟨s1, s2, s3⟩ := hS; go_simp⟩) hS0 ?_
  refine lastH_take (i := 1) (v := .pointer (some ⟨hb, 0, none⟩)) 12 rfl (by kernel_rfl) (by kernel_rfl) (by kernel_rfl) (by kernel_rfl) (fun _ _ _ h => h) (.inl ⟨rfl, fun w' hS => by obtain ⟨s1, s2, s3⟩ := hS; go_simp⟩) hS0 ?_
  refine lastH_take (i := 2) (v := .pointer (some ⟨hb, 0, none⟩)) 12 rfl (by kernel_rfl) (by kernel_rfl) (by kernel_rfl) (by kernel_rfl) (fun _ _ _ h => h) (.inl ⟨rfl, fun w' hS => by obtain ⟨s1, s2, s3⟩ := hS; go_simp⟩) hS0 ?_
  refine lastH_take (i := 3) (v := .pointer (some ⟨hb, 0, none⟩)) 12 rfl (by kernel_rfl) (by kernel_rfl) (by kernel_rfl) (by kernel_rfl) (fun _ _ _ h => h) (.inl ⟨rfl, fun w' hS => by obtain ⟨s1, s2, s3⟩ := hS; go_simp⟩) hS0 ?_
  refine lastH_take (i := 4) (v := .slice av hs.length cv) 12 rfl (by kernel_rfl) (by kernel_rfl) (by kernel_rfl) (by kernel_rfl) (fun _ _ _ h => h) (.inl ⟨rfl, fun w' hS => by obtain ⟨s1, s2, s3⟩ := hS; go_simp⟩) hS0 ?_
  refine lastH_take (i := 5) (v := .agg #[.string s, .int .i64 u]) 12 rfl (by kernel_rfl) (by kernel_rfl) (by kernel_rfl) (by kernel_rfl) (fun _ _ _ h => h) (.inl ⟨rfl, fun w' hS => by obtain ⟨s1, s2, s3⟩ := hS; go_simp⟩) hS0 ?_
  have HN1 : Blk ((w.alloc (.cells #[.string s, .int .i64 u] 101)).drew.alloc (.cells #[.string s, .int .i64 u] 101)) w.heap.size 101 #[.string s, .int .i64 u] := Blk.alloc (W := (w.alloc (.cells #[.string s, .int .i64 u] 101)).drew) HN.out (.cells #[.string s, .int .i64 u] 101)
  have HX1 : Blk ((w.alloc (.cells #[.string s, .int .i64 u] 101)).drew.alloc (.cells #[.string s, .int .i64 u] 101)) hb 129 #[.slice av hs.length cv, fFirst] := Blk.alloc (W := (w.alloc (.cells #[.string s, .int .i64 u] 101)).drew) HX.out (.cells #[.string s, .int .i64 u] 101)
  have hS1 : ((w.alloc (.cells #[.string s, .int .i64 u] 101)).drew.alloc (.cells #[.string s, .int .i64 u] 101)).cell? ⟨w.heap.size, 0, none⟩ = some (.string s) ∧ ((w.alloc (.cells #[.string s, .int .i64 u] 101)).drew.alloc (.cells #[.string s, .int .i64 u] 101)).cell? ⟨w.heap.size, 1, none⟩ = some (.int .i64 u) ∧ ((w.alloc (.cells #[.string s, .int .i64 u] 101)).drew.alloc (.cells #[.string s, .int .i64 u] 101)).cell? ⟨hb, 0, none⟩ = some (.slice av hs.length cv) := ⟨HN1.cell 0, HN1.cell 1, HX1.cell 0⟩
  have HR1 : Hid (((w.alloc (.cells #[.string s, .int .i64 u] 101)).drew.alloc (.cells #[.string s, .int .i64 u] 101)).ownsRow B 101 2 (.slice av hs.length cv) hs.length (cellsI hs)) := World.ownsRow.alloc HR.out (.cells #[.string s, .int .i64 u] 101)
  have HX1' := hid HX1
  have HN1' := hid HN1
  clear HN1 HX1
  have HNW : Hid (∀ j x, [Value.string s, Value.int .i64 u][j]? = some x → ((w.alloc (.cells #[.string s, .int .i64 u] 101)).drew.alloc (.cells #[.string s, .int .i64 u] 101)).cell? ((⟨w.heap.size + 1, 0, none⟩ : Addr).add j) = some x) := by
    have h := two_new (w.alloc (.cells #[.string s, .int .i64 u] 101)).drew (.string s) (.int .i64 u) 101
    rw [show (w.alloc (.cells #[.string s, .int .i64 u] 101)).drew.heap.size = w.heap.size + 1 from World.size_alloc ..] at h
    exact hid h
  refine last_one 6 (by kernel_rfl) (op_value (v := .slice (some ⟨w.heap.size + 1, 0, none⟩) 1 1) (w' := (w.alloc (.cells #[.string s, .int .i64 u] 101)).drew.alloc (.cells #[.string s, .int .i64 u] 101)) rfl rfl (by go_simp) ⟨fun _ => hS1, ?_⟩)
  refine last_one 7 (by kernel_rfl) (op_wp rfl rfl (wp_append_lies _ (.tmp 10) (.tmp 12) 127 rfl B 101 i0 (.agg #[.string ⟨#[]⟩, .int .i64 0]) 2 24 Tryz.underlying127 hi0 hz0 hz1 hz2 rfl (by decide) (.slice av hs.length cv) hs.length (cellsI hs) (by go_simp) HR1.out ⟨w.heap.size + 1, 0, none⟩ 1 1 [.string s, .int .i64 u] (by go_simp) rfl HNW.out (by simp [Value.oneCell']) (by decide) (by unfold maxLen; omega) (by omega) (by simp; omega) (w.heap.size + 2) (by simp) ?_))
  intro g cap w4 hown4 hgrow4 hgo hgl
  have hrl : ∀ g, (Value.slice av hs.length cv).ownBlock = some g → B ≤ g ∧ g < w.heap.size := HR0.out.lt
  have hL4 : LRow w4 B (.slice (some ⟨g, 0, none⟩) (hs.length + 1) cap) (hs ++ [(s, u)]) := by
    unfold LRow
    have e1 : (hs ++ [(s, u)]).length = hs.length + 1 := by simp
    have e2 : cellsI (hs ++ [(s, u)]) = cellsI hs ++ [.string s, .int .i64 u] := by unfold cellsI; rw [List.flatMap_append]; rfl
    rw [e1, e2]; exact hown4
  have hgB : B ≤ g := (World.ownsRow.lt hown4 g rfl).1
  have X4 := HX1'.out.kept hgrow4 (fun e => by have := (hrl hb e.symm).1; omega)
  have N4 := HN1'.out.kept hgrow4 (fun e => by have := (hrl _ e.symm).2; omega)
  have hS4 : w4.cell? ⟨w.heap.size, 0, none⟩ = some (.string s) ∧ w4.cell? ⟨w.heap.size, 1, none⟩ = some (.int .i64 u) ∧ w4.cell? ⟨hb, 0, none⟩ = some (.slice av hs.length cv) := ⟨N4.cell 0, N4.cell 1, X4.cell 0⟩
  refine ⟨fun _ => hS4, ?_⟩
  refine lastH_take (i := 8) (v := .pointer (some ⟨hb, 0, none⟩)) 12 rfl (by kernel_rfl) (by kernel_rfl) (by kernel_rfl) (by kernel_rfl) (fun _ _ _ h => h) (.inl ⟨rfl, fun w' hS => by obtain ⟨s1, s2, s3⟩ := hS; go_simp⟩) hS4 ?_
  refine lastH_take (i := 9) (v := .pointer (some ⟨hb, 0, none⟩)) 12 rfl (by kernel_rfl) (by kernel_rfl) (by kernel_rfl) (by kernel_rfl) (fun _ _ _ h => h) (.inl ⟨rfl, fun w' hS => by obtain ⟨s1, s2, s3⟩ := hS; go_simp⟩) hS4 ?_
  have f4 := X4.fz 0
  have X5 := X4.set 0 (.slice (some ⟨g, 0, none⟩) (hs.length + 1) cap)
  have L5 := hL4.far (grownBy_setCellAt w4 hb 0 (.slice (some ⟨g, 0, none⟩) (hs.length + 1) cap)) (fun e => by have e' : g = hb := Option.some.inj e; omega)
  have T5 : But (fun b => b = hb ∨ (Value.slice av hs.length cv).ownBlock = some b) w (w4.setCell ⟨hb, 0, none⟩ (.slice (some ⟨g, 0, none⟩) (hs.length + 1) cap)) := by
    have t1 : But (fun b => b = hb ∨ (Value.slice av hs.length cv).ownBlock = some b) w ((w.alloc (.cells #[.string s, .int .i64 u] 101)).drew.alloc (.cells #[.string s, .int .i64 u] 101)) := But.of_below ((below_drewN ((Below.refl w.heap.size w).alloc (Nat.le_refl _) (.cells #[.string s, .int .i64 u] 101)) 1).alloc (by show _ ≤ (w.alloc (.cells #[.string s, .int .i64 u] 101)).heap.size; rw [World.size_alloc]; omega) (.cells #[.string s, .int .i64 u] 101))
    have t2 : But (fun b => b = hb ∨ (Value.slice av hs.length cv).ownBlock = some b) ((w.alloc (.cells #[.string s, .int .i64 u] 101)).drew.alloc (.cells #[.string s, .int .i64 u] 101)) w4 := ⟨hgrow4.os, hgrow4.tape, hgrow4.output, hgrow4.size, fun k hk hn => hgrow4.block k hk (fun e => hn (.inr e.symm))⟩
    have t3 := But.of_grown (P := fun b => b = hb ∨ (Value.slice av hs.length cv).ownBlock = some b) (grownBy_setCellAt w4 hb 0 (.slice (some ⟨g, 0, none⟩) (hs.length + 1) cap)) (.inl rfl)
    exact (t1.trans t2 fun _ _ h => h).trans t3 fun _ _ h => h
  obtain ⟨s1, s2, s3⟩ := hS4
  refine last_one 10 (by kernel_rfl) (op_skip (w' := w4.setCell ⟨hb, 0, none⟩ (.slice (some ⟨g, 0, none⟩) (hs.length + 1) cap)) rfl rfl (by go_simp) ⟨fun h => absurd rfl h, last_done (by kernel_rfl) ?_ _⟩)
  have HX5 : Hid (Blk (w4.setCell ⟨hb, 0, none⟩ (.slice (some ⟨g, 0, none⟩) (hs.length + 1) cap)) hb 129 #[.slice (some ⟨g, 0, none⟩) (hs.length + 1) cap, fFirst]) := hid X5
  have HL5 := hid L5
  have HT5 := hid T5
  have HG5 : Hid (g < (w4.setCell ⟨hb, 0, none⟩ (.slice (some ⟨g, 0, none⟩) (hs.length + 1) cap)).heap.size) := hid (by have := (grownBy_setCellAt w4 hb 0 (.slice (some ⟨g, 0, none⟩) (hs.length + 1) cap)).size; omega)
  generalize w4.setCell ⟨hb, 0, none⟩ (.slice (some ⟨g, 0, none⟩) (hs.length + 1) cap) = W5 at HX5 HL5 HT5 HG5 ⊢
  clear X4 N4 X5 L5 T5 s1 s2 s3 f4 hL4 hown4 hgrow4 hS0 hS1 HNW HR1 HN1' HX1' HN HX HR hrl
  go_simp
  have x0 : W5.cell? ⟨hb, 0, none⟩ = some (.slice (some ⟨g, 0, none⟩) (hs.length + 1) cap) := HX5.out.cell 0
  have HPM : Hid ((hs ++ [(s, u)]).Perm ((s, u) :: hs)) := hid (List.perm_append_singleton _ _)
  have HUP := hid (Up.push lfB lv0 HP.out (s, u))
  have HGO := hid hgo
  clear hgo
  go_wp2
  clear x0
  go_loopw [4] (fun iv wr => ∃ (k : Nat) (hs' : List Lv), iv = .int .i64 k ∧ hs'.length = hs.length + 1 ∧ hs'.Perm ((s, u) :: hs) ∧ Up lfB lv0 hs' k ∧ Blk wr hb 129 #[.slice (some ⟨g, 0, none⟩) (hs.length + 1) cap, fFirst] ∧ LRow wr B (.slice (some ⟨g, 0, none⟩) (hs.length + 1) cap) hs' ∧ W5.grownBy wr (some g)) (fun iv _ => (intOf iv).toNat)
  case atStart => exact ⟨hs.length, hs ++ [(s, u)], rfl, by simp, HPM.out, HUP.out, HX5.out, HL5.out, grown_refl2 _ _⟩
  case round =>
    obtain ⟨k, hs', rfl, hl', hpm, hup, hbx, hrw, hgr⟩ := hrel
    have HPM' := hid hpm
    have HUP' := hid hup
    have HBX := hid hbx
    have HRW := hid hrw
    have HGR := hid hgr
    have HL' := hid hl'
    have HEND : Hid (∀ wz, wr.grownBy wz (some g) → But (fun b => b = hb ∨ (Value.slice av hs.length cv).ownBlock = some b) w wz) := hid fun wz hz => by
      refine HT5.out.trans (But.of_grown (P := fun b => b = g) (grown_same HGR.out hz) rfl) fun i hi e => ?_
      subst e
      rcases HGO.out with e | e
      · exact .inr e
      · omega
    have hk' := hup.hlt
    rw [hl'] at hk'
    have x0 : wr.cell? ⟨hb, 0, none⟩ = some (.slice (some ⟨g, 0, none⟩) (hs.length + 1) cap) := hbx.cell 0
    have x1 : wr.cell? ⟨hb, 1, none⟩ = some fFirst := hbx.cell 1
    by_cases hk0 : k = 0
    · subst hk0
      have HD := hid (hup.done lfB lv0 (.inl rfl))
      clear hpm hup hbx hrw hgr hl'
      go_wp2
      refine bodyPost_end (results_none rfl _ _ _) rfl ?_
      exact ⟨rfl, _, hs', HPM'.out, HD.out, HBX.out, HRW.out, HEND.out wr (grown_refl2 _ _)⟩
    have hk1 : (0 : Int) < (k : Int) := by omega
    obtain ⟨q, hqd⟩ : ∃ q, q = (k - 1) / 2 := ⟨_, rfl⟩
    have hq : ((k : Int) - 1).tdiv 2 = (q : Int) := by
      rw [show ((k : Int) - 1) = ((k - 1 : Nat) : Int) by omega, hqd]
      rfl
    have hql : q < hs.length + 1 := by omega
    obtain ⟨lk, hlk⟩ : ∃ l, hv hs' k = l := ⟨_, rfl⟩
    obtain ⟨lq, hlq⟩ : ∃ l, hv hs' q = l := ⟨_, rfl⟩
    obtain ⟨ck0, ck1⟩ := hrw.cell k hup.hlt
    obtain ⟨cq0, cq1⟩ := hrw.cell q (by rw [hl']; omega)
    rw [hlk] at ck0 ck1
    rw [hlq] at cq0 cq1
    have HQD := hid hqd
    have HLK := hid hlk
    have HLQ := hid hlq
    have hkN : k < hs.length + 1 := hk'
    have HCL := hid (leavesFirst_any lk lq wr.drew)
    have hS0 : wr.drew.cell? ⟨hb, 0, none⟩ = some (.slice (some ⟨g, 0, none⟩) (hs.length + 1) cap) ∧ wr.drew.cell? ⟨hb, 1, none⟩ = some fFirst ∧ wr.drew.cell? ⟨g, k * 2, none⟩ = some (.string lk.1) ∧ wr.drew.cell? ⟨g, k * 2 + 1, none⟩ = some (.int .i64 lk.2) ∧ wr.drew.cell? ⟨g, q * 2, none⟩ = some (.string lq.1) ∧ wr.drew.cell? ⟨g, q * 2 + 1, none⟩ = some (.int .i64 lq.2) := ⟨x0, x1, ck0, ck1, cq0, cq1⟩
    have hec := enters_of Tryz.func97 (by kernel_rfl) rfl
    clear hpm hup hbx hgr hrw hqd hlk hlq hl' ck0 ck1 cq0 cq1 x0 x1 hk'
    go_wp2_with fail
    refine wp_region_held (S := fun w' => w'.cell? ⟨hb, 0, none⟩ = some (.slice (some ⟨g, 0, none⟩) (hs.length + 1) cap) ∧ w'.cell? ⟨hb, 1, none⟩ = some fFirst ∧ w'.cell? ⟨g, k * 2, none⟩ = some (.string lk.1) ∧ w'.cell? ⟨g, k * 2 + 1, none⟩ = some (.int .i64 lk.2) ∧ w'.cell? ⟨g, q * 2, none⟩ = some (.string lq.1) ∧ w'.cell? ⟨g, q * 2 + 1, none⟩ = some (.int .i64 lq.2)) (by kernel_rfl) ?_
    change wpAnyH _ _ _ _ _ _ _ _ (World.drew _)
    refine wpAnyH_take (i := 0) (v := .pointer (some ⟨hb, 0, none⟩)) rfl (by kernel_rfl) (by kernel_rfl) (by kernel_rfl) (fun _ _ _ h => h) (.inl ⟨rfl, fun w' hS => by obtain ⟨s1, s2, s3, s4, s5, s6⟩ := hS; first | (go_simp; done) | (go_simp; intro h; exfalso; omega)⟩) hS0 ?_
    refine wpAnyH_take (i := 1) (v := .pointer (some ⟨hb, 0, none⟩)) rfl (by kernel_rfl) (by kernel_rfl) (by kernel_rfl) (fun _ _ _ h => h) (.inl ⟨rfl, fun w' hS => by obtain ⟨s1, s2, s3, s4, s5, s6⟩ := hS; first | (go_simp; done) | (go_simp; intro h; exfalso; omega)⟩) hS0 ?_
    refine wpAnyH_take (i := 2) (v := .pointer (some ⟨hb, 1, none⟩)) rfl (by kernel_rfl) (by kernel_rfl) (by kernel_rfl) (fun _ _ _ h => h) (.inl ⟨rfl, fun w' hS => by obtain ⟨s1, s2, s3, s4, s5, s6⟩ := hS; first | (go_simp; done) | (go_simp; intro h; exfalso; omega)⟩) hS0 ?_
    refine wpAnyH_take (i := 3) (v := fFirst) rfl (by kernel_rfl) (by kernel_rfl) (by kernel_rfl) (fun _ _ _ h => h) (.inl ⟨rfl, fun w' hS => by obtain ⟨s1, s2, s3, s4, s5, s6⟩ := hS; first | (go_simp; done) | (go_simp; intro h; exfalso; omega)⟩) hS0 ?_
    refine wpAnyH_take (i := 4) (v := .pointer (some ⟨hb, 0, none⟩)) rfl (by kernel_rfl) (by kernel_rfl) (by kernel_rfl) (fun _ _ _ h => h) (.inl ⟨rfl, fun w' hS => by obtain ⟨s1, s2, s3, s4, s5, s6⟩ := hS; first | (go_simp; done) | (go_simp; intro h; exfalso; omega)⟩) hS0 ?_
    refine wpAnyH_take (i := 5) (v := .pointer (some ⟨hb, 0, none⟩)) rfl (by kernel_rfl) (by kernel_rfl) (by kernel_rfl) (fun _ _ _ h => h) (.inl ⟨rfl, fun w' hS => by obtain ⟨s1, s2, s3, s4, s5, s6⟩ := hS; first | (go_simp; done) | (go_simp; intro h; exfalso; omega)⟩) hS0 ?_
    refine wpAnyH_take (i := 6) (v := .pointer (some ⟨hb, 0, none⟩)) rfl (by kernel_rfl) (by kernel_rfl) (by kernel_rfl) (fun _ _ _ h => h) (.inl ⟨rfl, fun w' hS => by obtain ⟨s1, s2, s3, s4, s5, s6⟩ := hS; first | (go_simp; done) | (go_simp; intro h; exfalso; omega)⟩) hS0 ?_
    refine wpAnyH_take (i := 7) (v := .slice (some ⟨g, 0, none⟩) (hs.length + 1) cap) rfl (by kernel_rfl) (by kernel_rfl) (by kernel_rfl) (fun _ _ _ h => h) (.inl ⟨rfl, fun w' hS => by obtain ⟨s1, s2, s3, s4, s5, s6⟩ := hS; first | (go_simp; done) | (go_simp; intro h; exfalso; omega)⟩) hS0 ?_
    refine wpAnyH_take (i := 8) (v := .int .i64 (k : Nat)) rfl (by kernel_rfl) (by kernel_rfl) (by kernel_rfl) (fun _ _ _ h => h) (.inl ⟨rfl, fun w' hS => by obtain ⟨s1, s2, s3, s4, s5, s6⟩ := hS; first | (go_simp; done) | (go_simp; intro h; exfalso; omega)⟩) hS0 ?_
    refine wpAnyH_take (i := 9) (v := .pointer (some ⟨g, k * 2, none⟩)) rfl (by kernel_rfl) (by kernel_rfl) (by kernel_rfl) (fun _ _ _ h => h) (.inl ⟨rfl, fun w' hS => by obtain ⟨s1, s2, s3, s4, s5, s6⟩ := hS; first | (go_simp; done) | (go_simp; intro h; exfalso; omega)⟩) hS0 ?_
    refine wpAnyH_take (i := 10) (v := .agg #[.string lk.1, .int .i64 lk.2]) rfl (by kernel_rfl) (by kernel_rfl) (by kernel_rfl) (fun _ _ _ h => h) (.inl ⟨rfl, fun w' hS => by obtain ⟨s1, s2, s3, s4, s5, s6⟩ := hS; first | (go_simp; done) | (go_simp; intro h; exfalso; omega)⟩) hS0 ?_
    refine wpAnyH_take (i := 11) (v := .pointer (some ⟨hb, 0, none⟩)) rfl (by kernel_rfl) (by kernel_rfl) (by kernel_rfl) (fun _ _ _ h => h) (.inl ⟨rfl, fun w' hS => by obtain ⟨s1, s2, s3, s4, s5, s6⟩ := hS; first | (go_simp; done) | (go_simp; intro h; exfalso; omega)⟩) hS0 ?_
    refine wpAnyH_take (i := 12) (v := .pointer (some ⟨hb, 0, none⟩)) rfl (by kernel_rfl) (by kernel_rfl) (by kernel_rfl) (fun _ _ _ h => h) (.inl ⟨rfl, fun w' hS => by obtain ⟨s1, s2, s3, s4, s5, s6⟩ := hS; first | (go_simp; done) | (go_simp; intro h; exfalso; omega)⟩) hS0 ?_
    refine wpAnyH_take (i := 13) (v := .pointer (some ⟨hb, 0, none⟩)) rfl (by kernel_rfl) (by kernel_rfl) (by kernel_rfl) (fun _ _ _ h => h) (.inl ⟨rfl, fun w' hS => by obtain ⟨s1, s2, s3, s4, s5, s6⟩ := hS; first | (go_simp; done) | (go_simp; intro h; exfalso; omega)⟩) hS0 ?_
    refine wpAnyH_take (i := 14) (v := .slice (some ⟨g, 0, none⟩) (hs.length + 1) cap) rfl (by kernel_rfl) (by kernel_rfl) (by kernel_rfl) (fun _ _ _ h => h) (.inl ⟨rfl, fun w' hS => by obtain ⟨s1, s2, s3, s4, s5, s6⟩ := hS; first | (go_simp; done) | (go_simp; intro h; exfalso; omega)⟩) hS0 ?_
    refine wpAnyH_take (i := 15) (v := .int .i64 (q : Nat)) rfl (by kernel_rfl) (by kernel_rfl) (by kernel_rfl) (fun _ _ _ h => h) (.inl ⟨rfl, fun w' hS => by obtain ⟨s1, s2, s3, s4, s5, s6⟩ := hS; first | (go_simp; done) | (go_simp; intro h; exfalso; omega)⟩) hS0 ?_
    refine wpAnyH_take (i := 16) (v := .pointer (some ⟨g, q * 2, none⟩)) rfl (by kernel_rfl) (by kernel_rfl) (by kernel_rfl) (fun _ _ _ h => h) (.inl ⟨rfl, fun w' hS => by obtain ⟨s1, s2, s3, s4, s5, s6⟩ := hS; first | (go_simp; done) | (go_simp; intro h; exfalso; omega)⟩) hS0 ?_
    refine wpAnyH_take (i := 17) (v := .agg #[.string lq.1, .int .i64 lq.2]) rfl (by kernel_rfl) (by kernel_rfl) (by kernel_rfl) (fun _ _ _ h => h) (.inl ⟨rfl, fun w' hS => by obtain ⟨s1, s2, s3, s4, s5, s6⟩ := hS; first | (go_simp; done) | (go_simp; intro h; exfalso; omega)⟩) hS0 ?_
    refine held_one 18 (by kernel_rfl) (op_calls (f := 97) (args := #[.agg #[.string lk.1, .int .i64 lk.2], .agg #[.string lq.1, .int .i64 lq.2]]) rfl rfl (by go_simp) HCL.out ?_)
    rintro e w6 ⟨rfl, hb6⟩
    have hb6' : Below wr.heap.size wr w6 := ⟨hb6.os, hb6.tape, hb6.output, hb6.size, hb6.block⟩
    have R6 := HRW.out.below hb6'
    have X6 := HBX.out.below hb6'
    obtain ⟨ck0, ck1⟩ := R6.cell k (by rw [HL'.out]; exact hkN)
    obtain ⟨cq0, cq1⟩ := R6.cell q (by rw [HL'.out]; exact hql)
    rw [HLK.out] at ck0 ck1
    rw [HLQ.out] at cq0 cq1
    have x0 : w6.cell? ⟨hb, 0, none⟩ = some (.slice (some ⟨g, 0, none⟩) (hs.length + 1) cap) := X6.cell 0
    have x1 : w6.cell? ⟨hb, 1, none⟩ = some fFirst := X6.cell 1
    have hS1 : w6.cell? ⟨hb, 0, none⟩ = some (.slice (some ⟨g, 0, none⟩) (hs.length + 1) cap) ∧ w6.cell? ⟨hb, 1, none⟩ = some fFirst ∧ w6.cell? ⟨g, k * 2, none⟩ = some (.string lk.1) ∧ w6.cell? ⟨g, k * 2 + 1, none⟩ = some (.int .i64 lk.2) ∧ w6.cell? ⟨g, q * 2, none⟩ = some (.string lq.1) ∧ w6.cell? ⟨g, q * 2 + 1, none⟩ = some (.int .i64 lq.2) := ⟨x0, x1, ck0, ck1, cq0, cq1⟩
    have HR6 := hid R6
    have HX6 := hid X6
    have HG6 := hid (grown_below' (o := some g) hb6')
    clear R6 X6 hb6 hb6' hS0
    refine ⟨_, rfl, hS1, ?_⟩
    cases hf : lfB lk lq with
    | false =>
      have HD := hid (HUP'.out.done lfB lv0 (.inr (by rw [← HQD.out]; show lfB (hv hs' k) (hv hs' q) = false; rw [HLK.out, HLQ.out]; exact hf)))
      refine wpAnyH_take (i := 19) (v := .bool true) rfl (by kernel_rfl) (by kernel_rfl) (by kernel_rfl) (fun _ _ _ h => h) (.inl ⟨rfl, fun w' hS => by obtain ⟨s1, s2, s3, s4, s5, s6⟩ := hS; first | (go_simp; done) | (go_simp; intro h; exfalso; omega)⟩) hS1 ?_
      refine wpAnyH_done (by kernel_rfl) ?_ _
      clear hS1 x0 x1 ck0 ck1 cq0 cq1
      go_simp
      go_wp2
      refine bodyPost_ret (results_none rfl _ _ _) rfl ?_
      exact ⟨rfl, _, hs', HPM'.out, HD.out, HX6.out, HR6.out, HEND.out w6 HG6.out⟩
    | true =>
      have HST : Hid (Up lfB lv0 (swp lv0 hs' k q) q) := hid (by
        have h := HUP'.out.step lfB lv0 lfB_co lfB_as (by omega) (by rw [← HQD.out]; show lfB (hv hs' k) (hv hs' q) = true; rw [HLK.out, HLQ.out]; exact hf)
        rw [← HQD.out] at h
        exact h)
      have HPS : Hid ((swp lv0 hs' k q).Perm ((s, u) :: hs)) := hid ((swp_perm lv0 hs' k q (by rw [HL'.out]; exact hkN) (by rw [HL'.out]; exact hql) (by have := HQD.out; omega)).trans HPM'.out)
      have f0 := HR6.out.fz (k * 2)
      have f1 := HR6.out.fz (k * 2 + 1)
      have f2 := HR6.out.fz (q * 2)
      have f3 := HR6.out.fz (q * 2 + 1)
      have hne : q < k := by have := HQD.out; omega
      refine wpAnyH_take (i := 19) (v := .bool false) rfl (by kernel_rfl) (by kernel_rfl) (by kernel_rfl) (fun _ _ _ h => h) (.inl ⟨rfl, fun w' hS => by obtain ⟨s1, s2, s3, s4, s5, s6⟩ := hS; first | (go_simp; done) | (go_simp; intro h; exfalso; omega)⟩) hS1 ?_
      refine wpAnyH_done (by kernel_rfl) ?_ _
      clear hS1
      go_simp
      go_wp2_with fail
      go_region
      go_wp2
      have G4 : w6.grownBy ((((w6.setCell ⟨g, k * 2, none⟩ (.string lq.1)).setCell ⟨g, k * 2 + 1, none⟩ (.int .i64 lq.2)).setCell ⟨g, q * 2, none⟩ (.string lk.1)).setCell ⟨g, q * 2 + 1, none⟩ (.int .i64 lk.2)) (some g) := grown_same (grown_same (grown_same (grownBy_setCellAt w6 g (k * 2) _) (grownBy_setCellAt _ g (k * 2 + 1) _)) (grownBy_setCellAt _ g (q * 2) _)) (grownBy_setCellAt _ g (q * 2 + 1) _)
      have G5 : w6.grownBy ((((w6.setCell ⟨g, k * 2, none⟩ (.string lq.1)).setCell ⟨g, k * 2 + 1, none⟩ (.int .i64 lq.2)).setCell ⟨g, q * 2, none⟩ (.string lk.1)).setCell ⟨g, q * 2 + 1, none⟩ (.int .i64 lk.2)).drew (some g) := ⟨G4.os, G4.tape, G4.output, G4.size, G4.block⟩
      have L4 := (HR6.out.set k (by rw [HL'.out]; exact hkN) lq.1 lq.2).set q (by rw [List.length_set, HL'.out]; exact hql) lk.1 lk.2
      have e4 : (hs'.set k (lq.1, lq.2)).set q (lk.1, lk.2) = swp lv0 hs' k q := by
        show (hs'.set k lq).set q lk = swp lv0 hs' k q
        rw [← HLK.out, ← HLQ.out]
        rfl
      rw [e4] at L4
      exact ⟨⟨q, swp lv0 hs' k q, rfl, by rw [swp_len]; exact HL'.out, HPS.out, HST.out, HX6.out.kept G5 (fun e => by have e' : hb = g := Option.some.inj e; omega), L4, grown_same (grown_same HGR.out HG6.out) G5⟩, by simp [intOf]; omega⟩
end Go.Proofs.YtffpdgpcjgfgcaaGreatDoor
