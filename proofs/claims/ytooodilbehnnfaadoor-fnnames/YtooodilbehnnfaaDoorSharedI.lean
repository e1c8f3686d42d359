/- impl.Shared. -/
import Derived.Test.YtooodilbehnnfaaDoorShared
namespace Go.Proofs.YtooodilbehnnfaaDoor
open Go.RowKit
attribute [local go_sem] Oper.semAt_some
def setD (pre : List ByteArray) : DataW Unit := (pre.map fun p => Lit.string p.data.toList).foldl (fun m x => m.put x (.agg [])) (.map [])
theorem setD_snoc (pre : List ByteArray) (x : ByteArray) : setD (pre ++ [x]) = (setD pre).put (.string x.data.toList) (.agg []) := by
  unfold setD; rw [List.map_append, List.foldl_append]; rfl
theorem setD_has (pre : List ByteArray) (x : ByteArray) : Maps.has (setD pre) (.string x.data.toList) = hasB pre x := by
  unfold setD
  rw [Maps.has_fold _ _ _ _ ⟨_, rfl⟩ (fun y hy => by
    obtain ⟨p, _, rfl⟩ := List.mem_map.1 hy
    exact trivial), List.any_map]
  unfold hasB
  have : Maps.has (H := Unit) (.map []) (.string x.data.toList) = false := rfl
  rw [this, Bool.false_or]
  congr 1
  funext p
  rw [Bool.eq_iff_iff]
  simp only [Function.comp]
  rw [WideAt.sameKey_iff (b := .string x.data.toList) trivial]
  simp [ByteArray.toList_eq]
theorem kept_from {A A' : World} {row : Option Nat} {B k : Nat} {o : Obj} (hg : A.grownBy A' row) (hr : ∀ r, row = some r → B ≤ r) (hk : k < B) (h : A.heap[k]? = some o) : A'.heap[k]? = some o :=
  (hg.block k (Array.getElem?_eq_some_iff.1 h).1 (fun e => by have := hr k e.symm; omega)).trans h
/-- What the first loop of impl.Shared keeps. -/
def ISet (w : World) (M : Nat) (pre : List ByteArray) (W : World) : Prop :=
  W.ownsMap Tryd.prog 9 unitElem M pre.length (setD pre) ∧ Boxed W (M + 1) 61 (.map (some M)) ∧ Below M w W ∧ M + 3 ≤ W.heap.size
theorem ISet.grown {w A A' : World} {M B : Nat} {pre : List ByteArray} {row : Option Nat} (h : ISet w M pre A) (hg : A.grownBy A' row) (hr : ∀ r, row = some r → B ≤ r) (hB : M + 1 < B) : ISet w M pre A' :=
  ⟨h.1.kept hg (fun e => by have := hr M e.symm; omega), h.2.1.kept hg (fun e => by have := hr (M + 1) e.symm; omega), h.2.2.1.grown hg (by have := h.2.1.lt; omega) (fun r e => by have := hr r e; omega), Nat.le_trans h.2.2.2 hg.size⟩
theorem set_end {w W w1 : World} {pre : List ByteArray} {x : ByteArray} {B : Nat} (hmap : W.ownsMap Tryd.prog 9 (unitElem (H := Unit)) w.heap.size pre.length (setD pre)) (hbox : Boxed W (w.heap.size + 1) 61 (.map (some w.heap.size))) (hB : Below w.heap.size w W) (hsz : w.heap.size + 3 ≤ W.heap.size)
    (hown : w1.ownsMap Tryd.prog 9 (unitElem (H := Unit)) w.heap.size (pre.length + 1) ((setD pre).put (.string x.data.toList) (.agg []))) (hg : W.grownBy w1 (some w.heap.size)) (hBd : w.heap.size < B) :
    Exit.normal = Exit.normal ∧ KeepsFrom B W w1 ∧ KeepP (w.heap.size + 1 + 1) W w1 ∧ ISet w w.heap.size (pre ++ [x]) w1 := by
  obtain ⟨es, clock, hb, _⟩ := hmap
  refine ⟨rfl, KeepsFrom.of_grownBy hg (fun j e => by cases e; exact hBd), ⟨fun j c hj => (hg.block j (Array.getElem?_eq_some_iff.1 hj).1 (fun e => ?_)).trans hj, ?_⟩, ?_, hbox.kept hg (fun e => by simp at e), hB.grown hg hB.size (fun r e => by cases e; exact Nat.le_refl _), Nat.le_trans hsz hg.size⟩
  · cases e
    rw [hb] at hj; cases hj
  · exact hg.block _ (by omega) (fun e => by simp at e; omega)
  · rw [setD_snoc]; simpa using hown
theorem zv55 (w : World) : (zeroValue 65).run Tryd.prog w = .ok (.agg #[]) w := by kernel_rfl
/-- What the second loop of impl.Shared keeps. -/
def ISum (w : World) (A : List ByteArray) (S D : Nat) (pre : List ByteArray) (W : World) : Prop :=
  W.ownsMap Tryd.prog 9 unitElem w.heap.size A.length (setD A) ∧ Boxed W (w.heap.size + 1) 61 (.map (some w.heap.size)) ∧ Boxed W S 3 (.int .i64 (sharedOf A pre)) ∧ W.heap[D]? = some (.deferred (some [])) ∧ Below w.heap.size w W ∧ S + 2 ≤ W.heap.size
theorem ISum.grown {w X X' : World} {A : List ByteArray} {S D : Nat} {pre : List ByteArray} {row : Option Nat} (h : ISum w A S D pre X) (hg : X.grownBy X' row) (hr : ∀ r, row = some r → S + 2 ≤ r) (hS : w.heap.size + 1 < S) (hD : D < S) : ISum w A S D pre X' :=
  ⟨h.1.kept hg (fun e => by have := hr _ e.symm; omega), h.2.1.kept hg (fun e => by have := hr _ e.symm; omega), h.2.2.1.kept hg (fun e => by have := hr _ e.symm; omega), kept_from hg hr (by omega) h.2.2.2.1,
    h.2.2.2.2.1.grown hg (by have := h.2.1.lt; omega) (fun r e => by have := hr r e; omega), Nat.le_trans h.2.2.2.2.2 hg.size⟩
theorem sum_alloc {w X : World} {A : List ByteArray} {S D : Nat} {pre : List ByteArray} {x : ByteArray} (o : Obj) (h : ISum w A S D pre X) (hS : w.heap.size + 1 < S) (hD : D < S) (hn : hasB A x = false) :
    KeepsFrom (S + 2) X (X.alloc o) ∧ KeepP (S + 1) X (X.alloc o) ∧ ISum w A S D (pre ++ [x]) (X.alloc o) := by
  refine ⟨(KeepsOthers.alloc X o).from _, ⟨fun j c hj => (Below.heap_alloc X o j (Array.getElem?_eq_some_iff.1 hj).1).trans hj, Below.heap_alloc X o _ (by have := h.2.2.2.2.2; omega)⟩, ?_⟩
  have h2 := h.grown (World.grownBy_alloc X o none) (fun r e => by cases e) hS hD
  unfold ISum at h2 ⊢
  rw [sharedOf_snoc, hn, if_neg (by simp)]
  exact h2
theorem sum_store {w X : World} {A : List ByteArray} {S D : Nat} {pre : List ByteArray} {x : ByteArray} (o : Obj) (u : Int) (hu : u = ((sharedOf A pre + x.size : Nat) : Int)) (h : ISum w A S D pre X) (hS : w.heap.size + 1 < S) (hD : D < S) (hn : hasB A x = true) :
    KeepsFrom (S + 2) X ((X.setCell ⟨S, 0, none⟩ (.int .i64 u)).alloc o) ∧ KeepP (S + 1) X ((X.setCell ⟨S, 0, none⟩ (.int .i64 u)).alloc o) ∧ ISum w A S D (pre ++ [x]) ((X.setCell ⟨S, 0, none⟩ (.int .i64 u)).alloc o) := by
  subst hu
  obtain ⟨h3, h4, h5, h6, h7, h8⟩ := h
  have hg := grownBy_setCell' X S (.int .i64 ((sharedOf A pre + x.size : Nat) : Int))
  have hY : ISum w A S D (pre ++ [x]) (X.setCell ⟨S, 0, none⟩ (.int .i64 ((sharedOf A pre + x.size : Nat) : Int))) := by
    refine ⟨h3.kept hg (fun e => by simp at e; omega), h4.kept hg (fun e => by simp at e; omega), ?_, ?_, h7.setCell (p := ⟨S, 0, none⟩) (by show w.heap.size ≤ S; omega) _, Nat.le_trans h8 hg.size⟩
    · rw [sharedOf_snoc, hn, if_pos rfl]
      exact h5.set _
    · exact (heap_setCell_other _ _ _ _ (by show D ≠ S; omega)).trans h6
  refine ⟨((KeepsOthers.setCell _ _ _).trans (KeepsOthers.alloc _ o)).from _, ⟨fun j c hj => ?_, ?_⟩, hY.grown (World.grownBy_alloc _ o none) (fun r e => by cases e) hS hD⟩
  · have hjl := (Array.getElem?_eq_some_iff.1 hj).1
    refine (Below.heap_alloc _ o j (by simp; omega)).trans ((heap_setCell_other _ _ _ _ (fun e => ?_)).trans hj)
    have e' : j = S := e
    subst e'
    have := h5.symm.trans hj
    simp at this
  · exact (Below.heap_alloc _ o _ (by simp; omega)).trans (heap_setCell_other _ _ _ _ (by show S + 1 ≠ S; omega))
set_option maxRecDepth 100000 in
set_option maxHeartbeats 1000000 in
theorem implShared_any (a b : ByteArray) (w : World) :
    Calls Tryd.prog 15 #[.string a, .string b] w fun e w' => e = .returned (.int .i64 (sharedOf (piecesOf a) (piecesOf b))) ∧ Below w.heap.size w w' := by
  have hmm := @run_makeMap Tryd.prog
  refine (callsIn_wide (n := 0)).1 ?_
  refine callsIn_of_wp_marks Tryd.func15 rfl trivial ?_ rfl
  simp only [Tryd.ntmps15, List.size_toArray, List.length_cons, List.length_nil, Nat.reduceAdd, Nat.reduceSub, Array.replicate_succ, Array.replicate_zero, List.push_toArray, List.append_toArray, List.nil_append, List.cons_append]
  gi_wp2_with (refine ⟨trivial, rfl, ?_⟩; gi_at_call 38; refine (callsIn_wide.2 (eachPiece_any a _)).mono ?_; rintro e w' ⟨rfl, rfl⟩)
  have bS : Boxed (((w.alloc (.map #[] 0)).alloc (.cells #[.map (some w.heap.size)] 61)).alloc (.cells #[.string a] 9)) (w.heap.size + 1) 61 (.map (some w.heap.size)) := by
    have := (Boxed.new (w.alloc (.map #[] 0)) 61 (.map (some w.heap.size))).alloc (.cells #[.string a] 9)
    rwa [World.size_alloc] at this
  have bN : Boxed (((w.alloc (.map #[] 0)).alloc (.cells #[.map (some w.heap.size)] 61)).alloc (.cells #[.string a] 9)) (w.heap.size + 1 + 1) 9 (.string a) := by
    have := Boxed.new ((w.alloc (.map #[] 0)).alloc (.cells #[.map (some w.heap.size)] 61)) 9 (.string a)
    rwa [World.size_alloc, World.size_alloc] at this
  have hB0 : Below w.heap.size w (((w.alloc (.map #[] 0)).alloc (.cells #[.map (some w.heap.size)] 61)).alloc (.cells #[.string a] 9)) := (((Below.refl _ w).alloc (Nat.le_refl _) _).alloc (by simp) _).alloc (by simp; omega) _
  have m0 : (((w.alloc (.map #[] 0)).alloc (.cells #[.map (some w.heap.size)] 61)).alloc (.cells #[.string a] 9)).ownsMap Tryd.prog 9 (unitElem (H := Unit)) w.heap.size 0 (.map []) := ((World.ownsMap_made w Tryd.prog 9 unitElem).alloc _).alloc _
  refine wp_range (T := 83) (gf := 52) (lb := #[.pointer (some ⟨w.heap.size + 1 + 1, 0, none⟩)]) rfl (enters_of Tryd.func52 (by kernel_rfl) rfl)
    (iter_seq a (w.heap.size + 1 + 1) _ (by simp) bN) (fun h k => h.trans k) (fun W l o o' hl h ho => KeepP.put W l o o' (by simp at hl; omega) h ho) (Below.refl _ _) (fun _ => rfl)
    (ISet w w.heap.size)
    (fun _ _ _ _ hs hg hr => hs.grown hg (fun r e => (hr r e).1) (by simp))
    (fun _ _ _ _ hs hg hr => hs.grown hg (fun r e => (hr r e).1) (by simp)) ⟨m0, bS, hB0, by simp⟩
    (fun x => { tmps := #[.string a, .string b, undef, undef, .int .i64 0, .pointer (some ⟨w.heap.size + 1, 0, none⟩), .string x, undef, undef, undef, undef, .map (some w.heap.size), .string a, .func (.func 52) #[] #[.pointer (some ⟨w.heap.size + 1 + 1, 0, none⟩)], .string x, undef, undef, undef, undef, undef, undef, undef, undef, undef, undef, undef, undef, undef, undef, undef, undef, undef, undef], defers := [] }) ?assign ?body ?done
  case assign =>
    intro l x W K hK
    gi_wp2
    exact hK
  case body =>
    rintro l pre x W ⟨hmap, hbox, hB, hsz⟩ hpx
    have hc := hbox.cell
    have hx : x.size ≤ maxLen := Nat.le_trans (piecesOf_size a x (hpx.subset (by simp))) (by unfold maxLen; omega)
    have hpl : pre.length + 1 ≤ 3000 := by have := hpx.length_le; have := piecesOf_len a; simp at *; omega
    clear hpx bS bN hB0 m0
    gi_wp2_with (gi_at_mapUpdate; refine wpListIn_mapUpdate_own _ rfl _ _ _ 61 rfl 9 65 (Maps.string_keyed Tryd.underlying9) Tryd.underlying61 unitElem w.heap.size pre.length (setD pre) rfl hmap (by unfold maxLen; omega) _ _ _ rfl rfl (WideMaps.keyOf_string_mk Tryd.underlying9 hx) (.agg []) [] unitElem_mk ?_; intro w1 hown1 hgrow1)
    refine (set_end hmap hbox hB hsz hown1 hgrow1 ?_).2
    first | omega | (simp; done) | (simp; omega)
  case done =>
    rintro D W hD ⟨hmap, hbox, hB, hsz⟩ hK
    have hc := hbox.cell
    clear bS bN hB0 m0
    gi_wp2_with (refine ⟨trivial, rfl, ?_⟩; gi_at_call 38; refine (callsIn_wide.2 (eachPiece_any b _)).mono ?_; rintro e w' ⟨rfl, rfl⟩)
    have b3 : Boxed ((W.alloc (.cells #[.int .i64 0] 3)).alloc (.cells #[.string b] 9)) W.heap.size 3 (.int .i64 0) := (Boxed.new W 3 (.int .i64 0)).alloc _
    have bN : Boxed ((W.alloc (.cells #[.int .i64 0] 3)).alloc (.cells #[.string b] 9)) (W.heap.size + 1) 9 (.string b) := by
      have := Boxed.new (W.alloc (.cells #[.int .i64 0] 3)) 9 (.string b)
      rwa [World.size_alloc] at this
    have hDl : D < W.heap.size := (Array.getElem?_eq_some_iff.1 hK).1
    have i0 : ISum w (piecesOf a) W.heap.size D [] ((W.alloc (.cells #[.int .i64 0] 3)).alloc (.cells #[.string b] 9)) :=
      ⟨(hmap.alloc _).alloc _, (hbox.alloc _).alloc _, b3, (Below.heap_alloc _ _ _ (by simp; omega)).trans ((Below.heap_alloc _ _ _ hDl).trans hK), (hB.alloc hB.size _).alloc (by have := hB.size; simp; omega) _, by simp⟩
    refine wp_range (T := 83) (gf := 52) (lb := #[.pointer (some ⟨W.heap.size + 1, 0, none⟩)]) rfl (enters_of Tryd.func52 (by kernel_rfl) rfl)
      (iter_seq b (W.heap.size + 1) _ (by simp) bN) (fun h k => h.trans k) (fun X l o o' hl h ho => KeepP.put X l o o' (by simp at hl; omega) h ho) (Below.refl _ _) (fun _ => rfl)
      (ISum w (piecesOf a) W.heap.size D)
      (fun _ _ _ _ hs hg hr => hs.grown hg (fun r e => by have := (hr r e).1; simp at this; omega) (by omega) hDl)
      (fun _ _ _ _ hs hg hr => hs.grown hg (fun r e => by have := (hr r e).1; simp at this; omega) (by omega) hDl) i0
      (fun x => { tmps := #[.string a, .string b, undef, undef, .int .i64 0, .pointer (some ⟨w.heap.size + 1, 0, none⟩), undef, .pointer (some ⟨W.heap.size, 0, none⟩), .string x, undef, undef, .map (some w.heap.size), .string a, .func (.func 52) #[] #[.pointer (some ⟨w.heap.size + 1 + 1, 0, none⟩)], undef, undef, undef, undef, .string b, .func (.func 52) #[] #[.pointer (some ⟨W.heap.size + 1, 0, none⟩)], .string x, undef, undef, undef, undef, undef, undef, undef, undef, undef, undef, undef, undef], defers := [] }) ?assign2 ?body2 ?done2
    case assign2 =>
      intro l x X K hK
      gi_wp2
      exact hK
    case body2 =>
      rintro l pre x X hi hpx
      have hx : x.size ≤ 3000 := piecesOf_size b x (hpx.subset (by simp))
      have hx' : x.size ≤ maxLen := Nat.le_trans hx (by unfold maxLen; omega)
      have hsm := sharedOf_le (piecesOf a) pre (fun q hq => piecesOf_size b q (hpx.subset (by simp [hq])))
      have hpl : pre.length + 1 ≤ 3000 := by have := hpx.length_le; have := piecesOf_len b; simp at *; omega
      have hmap' := hi.1
      have hc1 := hi.2.1.cell
      have hc2 := hi.2.2.1.cell
      have hf2 := hi.2.2.1.frozen
      have hhas := setD_has (piecesOf a) x
      have hW1 : w.heap.size + 1 < W.heap.size := by omega
      have hXl : W.heap.size < X.heap.size := by have := hi.2.2.2.2.2; omega
      have HI := hid hi
      clear hpx b3 bN i0 hmap hbox hB hK hc hi
      cases hh : hasB (piecesOf a) x with
      | true =>
        rw [hh] at hhas
        gi_wp2_with (gi_at_lookup; refine wpListIn_lookup_own_unit _ rfl _ _ 61 rfl 9 65 (Maps.string_keyed Tryd.underlying9) Tryd.underlying61 (zv55 _) w.heap.size _ (setD (piecesOf a)) rfl hmap' _ _ rfl (WideMaps.keyOf_string_mk Tryd.underlying9 hx') ?_)
        exact sum_store _ _ (by omega) HI.out hW1 hDl hh
      | false =>
        rw [hh] at hhas
        gi_wp2_with (gi_at_lookup; refine wpListIn_lookup_own_unit _ rfl _ _ 61 rfl 9 65 (Maps.string_keyed Tryd.underlying9) Tryd.underlying61 (zv55 _) w.heap.size _ (setD (piecesOf a)) rfl hmap' _ _ rfl (WideMaps.keyOf_string_mk Tryd.underlying9 hx') ?_)
        exact sum_alloc _ HI.out hW1 hDl hh
    case done2 =>
      rintro D2 X hD2 ⟨h1, h2, h3, h4, h5, h6⟩ hK2
      have hc3 := h3.cell
      clear b3 bN i0 hmap hbox hB hK hc
      gi_wp2
      have hne : D ≠ D2 := by simp at hD2; omega
      have h4' := (World.putObj_heap_other (w := X) (o := .deferred none) hne).trans h4
      refine ⟨by simp, .inl ⟨_, _, rfl, run_takeDeferred hK2, ?_⟩⟩
      refine ⟨by simp, .inl ⟨_, _, rfl, run_takeDeferred h4', ?_⟩⟩
      refine ⟨_, results_tmp rfl _ _ _, rfl, ?_⟩
      exact (h5.trans (belowK_b (w := w) (Nat.le_refl _) X D2 _ _ (by simp at hD2; omega) hK2 rfl rfl)).trans (belowK_b (w := w) (Nat.le_refl _) _ D _ _ (by simp at hD; omega) h4' rfl rfl)
end Go.Proofs.YtooodilbehnnfaaDoor
