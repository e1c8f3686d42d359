/- impl.Pieces answers as spec.Pieces. -/
import Derived.Test.YtohnffbcgancfaaPiecesBase
import Derived.Test.YtohnffbcgancfaaClone
import Derived.RangeFuncCalls
namespace Go.Proofs.Ytohnffbcgancfaa
open Go.RowKit
attribute [local go_sem] Oper.semAt_some
theorem rowBox_abT (w : World) (B0 n₀ B : Nat) (h : B0 ≤ B) : AbT 89 B (fun (pre : List ByteArray) W => (∃ v, Boxed W B0 24 v ∧ W.ownsRow n₀ 9 1 v pre.length (pre.map Value.string) ∧ True) ∧ Below B0 w W ∧ n₀ ≤ W.heap.size) := by
  rintro pre A A' row ⟨⟨v, hv, hrow, _⟩, hB, hsz⟩ hg hr
  refine ⟨⟨v, hv.kept hg ?_, hrow.kept hg ?_, trivial⟩, hB.grown hg (Nat.le_of_lt hv.lt) (fun r e => Nat.le_trans h (hr r e).1), Nat.le_trans hsz hg.size⟩
  · intro e
    obtain ⟨_, c, hc⟩ := hr _ e.symm
    have := hv.symm.trans hc
    simp at this
  · rcases hrow with ⟨_, ⟨rfl, _⟩ | ⟨g, cap, cur, rfl, _, hgc, _⟩⟩
    · exact .inl rfl
    · refine .inr fun e => ?_
      obtain ⟨_, c, hc⟩ := hr g (by rw [← e]; rfl)
      have := hgc.symm.trans hc
      simp at this
/-- append, as a step of a region that draws its order, in a fence. -/
theorem stepIn_append_own {F : Fence} {n : Nat} {P : Program} {ops : Array Oper} {o : Oper} {a : Act} {w : World} {K : Act → World → Prop} {Q : Exit → Act → World → Prop} {E : Prop}
    (hg : o.guard = none) (s x : Operand) (t : TypeId) (hop : o.op = Op.call { callee := Callee.builtin Builtin.append, args := #[s, x], argTypes := #[t, t] })
    (base : Nat) (e : TypeId) (i : TypeInfo) (z : Value) (size bytes : Nat) (h1 : P.underlying t = some (.slice e)) (h2 : P.info? e = some i) (h3 : i.zero = some z) (h4 : i.size = size) (h5 : i.bytes = bytes) (h6 : z.cells.size = size) (h7 : 0 < size)
    (v : Value) (k : Nat) (xs : List Value) (hs : a.eval s = v) (hown : w.ownsRow base e size v k xs) (ad : Addr) (m c : Nat) (news : List Value) (hx : a.eval x = .slice (some ad) m c) (hn : news.length = m * size)
    (hc : ∀ j u, news[j]? = some u → w.cell? (ad.add j) = some u) (h1c : ∀ u ∈ news, u.oneCell' = true) (b1 : k + m ≤ maxLen) (b2 : (k + m) * bytes ≤ 140737488355328) (b3 : base ≤ w.heap.size)
    (hK : ∀ v' w', w'.ownsRow base e size v' (k + m) (xs ++ news) → w.grownBy w' v.ownBlock → K (a.put o.dst v') w') :
    if Region.wanted o (yielded ops a.tmps) = true then Oper.wpIn F n P o a w K Q else E := by
  rw [if_pos (by simp [Region.wanted, hg])]
  obtain ⟨v', w', hrun, r1, r2, _⟩ := run_append_own (P := P) w base t o.type e i z size bytes h1 h2 h3 h4 h5 h6 h7 v k xs hown ad m c news hn hc h1c b1 b2 b3
  refine ⟨by simp [Oper.about, hop, resolve, Target.leads, Sem.run_pure], ?_⟩
  rw [Oper.semAt_plain F _ _ (by rw [hop]; intro c hc'; cases hc')]
  simp [execOp, hop, resolve, invoke, builtin, hs, hx, hrun, Result.andThen]
  exact hK v' w' r1 r2
/-- What an append into a boxed row leaves. -/
theorem row_stored {W w1 : World} {n₀ B : Nat} {v v' : Value} {k m : Nat} {xs ys : List Value} {tmp : Obj} (hv : Boxed W B 24 v) (hrow : W.ownsRow n₀ 9 1 v k xs) (hB : B < n₀) (hn : n₀ ≤ W.heap.size)
    (hown' : w1.ownsRow n₀ 9 1 v' m ys) (hgrow : (W.alloc tmp).grownBy w1 v.ownBlock) :
    Boxed w1 B 24 v ∧ Boxed (w1.setCell ⟨B, 0, none⟩ v') B 24 v' ∧ (w1.setCell ⟨B, 0, none⟩ v').ownsRow n₀ 9 1 v' m ys ∧ Below B W (w1.setCell ⟨B, 0, none⟩ v') ∧
      ∀ (j : Nat) (o : Obj), W.heap[j]? = some o → j ≠ B → (j < n₀ ∨ ∀ c, o ≠ .cells c 9 (0, 0)) → (w1.setCell ⟨B, 0, none⟩ v').heap[j]? = some o := by
  have hlt : ∀ g, v.ownBlock = some g → n₀ ≤ g := fun g e => (hrow.lt g e).1
  have hv1 : Boxed w1 B 24 v := (hv.alloc tmp).kept hgrow (fun e => by have := hlt B e.symm; omega)
  have hbe : Below B W w1 := ((Below.refl B W).alloc (by omega) tmp).grown hgrow (by simp; omega) (fun g e => by have := hlt g e; omega)
  refine ⟨hv1, hv1.set v', hown'.kept (grownBy_setCell' w1 B v') ?_, hbe.setCell (p := ⟨B, 0, none⟩) (Nat.le_refl _) _, ?_⟩
  · rcases hown' with ⟨_, ⟨rfl, _⟩ | ⟨g, cap, cur, rfl, hg, _⟩⟩
    · exact .inl rfl
    · refine .inr fun e => ?_
      have : g = B := by simpa [Value.ownBlock] using e
      omega
  · intro j o hj hne ho
    have hjl := (Array.getElem?_eq_some_iff.1 hj).1
    have h1 : (W.alloc tmp).heap[j]? = some o := (Below.heap_alloc W tmp j hjl).trans hj
    have h2 : w1.heap[j]? = some o := by
      refine (hgrow.block j (by simp; omega) (fun e => ?_)).trans h1
      rcases ho with ho | ho
      · have := hlt j e.symm; omega
      · rcases hrow with ⟨_, ⟨rfl, _⟩ | ⟨g, cap, cur, rfl, _, hgc, _⟩⟩
        · simp [Value.ownBlock] at e
        · have : j = g := by simpa [Value.ownBlock] using e
          subst this
          rw [hj] at hgc
          exact ho cur (Option.some.inj hgc)
    exact (heap_setCell_other _ _ _ _ hne).trans h2
/-- The end of a round of impl.Pieces. -/
theorem body_end {w W w1 W2 : World} {pre : List ByteArray} {x : ByteArray} {v v' : Value} {B : Nat} (hv : Boxed W w.heap.size 24 v) (hb1 : Below W.heap.size W w1) (hsz : w.heap.size + 2 ≤ W.heap.size) (hB : Below w.heap.size w W) (hv3 : Boxed W2 w.heap.size 24 v')
    (hr3 : W2.ownsRow (w.heap.size + 2) 9 1 v' (pre.length + 1) (pre.map Value.string ++ [.string x])) (hb3 : Below w.heap.size w1 W2)
    (hkeep : ∀ (j : Nat) (o : Obj), w1.heap[j]? = some o → j ≠ w.heap.size → (j < w.heap.size + 2 ∨ ∀ c, o ≠ .cells c 9 (0, 0)) → W2.heap[j]? = some o) (hBd : w.heap.size < B := by simp; omega) :
    Exit.normal = Exit.normal ∧ KeepsFrom B W W2 ∧ KeepP (w.heap.size + 1) W W2 ∧ ((∃ v, Boxed W2 w.heap.size 24 v ∧ W2.ownsRow (w.heap.size + 2) 9 1 v (pre ++ [x]).length ((pre ++ [x]).map Value.string) ∧ True) ∧ Below w.heap.size w W2 ∧ w.heap.size + 2 ≤ W2.heap.size) := by
  have k1 : ∀ (j : Nat) (o : Obj), W.heap[j]? = some o → w1.heap[j]? = some o := fun j o h => (hb1.block j (Array.getElem?_eq_some_iff.1 h).1).trans h
  have hz : W.heap.size ≤ W2.heap.size := Nat.le_trans hb1.size hb3.size
  refine ⟨rfl, ⟨hz, fun j o hj ho hc => hkeep j o (k1 j o ho) (by omega) (.inr fun c e => ?_)⟩, ⟨fun j c hj => hkeep j _ (k1 j _ hj) ?_ (.inr fun c e => ?_), ?_⟩, ⟨⟨v', hv3, ?_, trivial⟩, hB.trans ((hb1.mono hB.size).trans hb3), by omega⟩⟩
  · subst e; cases hc
  · intro e
    subst e
    have := hv.symm.trans hj
    simp at this
  · cases e
  · have h1 : w.heap.size + 1 < W.heap.size := by omega
    obtain ⟨o, ho⟩ : ∃ o, W.heap[w.heap.size + 1]? = some o := ⟨_, Array.getElem?_eq_getElem h1⟩
    rw [ho]; exact hkeep _ o (k1 _ o ho) (by omega) (.inl (by omega))
  · simpa using hr3
set_option maxRecDepth 100000 in
set_option maxHeartbeats 1000000 in
theorem implPieces_any (s : ByteArray) (w : World) :
    Calls Try.prog 14 #[.string s] w fun e w' => ∃ v, e = .returned v ∧ w'.ownsRow w.heap.size 9 1 v (piecesOf s).length ((piecesOf s).map Value.string) ∧ Below w.heap.size w w' := by
  obtain ⟨i0, hi, hz0, hz1, hz2⟩ := info_parts Try.info9
  refine (callsIn_wide (n := 0)).1 ?_
  refine callsIn_of_wp_marks Try.func14 rfl trivial ?_ rfl
  simp only [Try.ntmps14, List.size_toArray, List.length_cons, List.length_nil, Nat.reduceAdd, Nat.reduceSub, Array.replicate_succ, Array.replicate_zero, List.push_toArray, List.append_toArray, List.nil_append, List.cons_append]
  gi_wp2_with (refine ⟨trivial, rfl, ?_⟩; gi_at_call 42; refine (callsIn_wide.2 (eachPiece_any s _)).mono ?_; rintro e w' ⟨rfl, rfl⟩)
  have bO := Boxed.new w 24 (.slice none 0 0)
  have bN := Boxed.new (w.alloc (.cells #[.slice none 0 0] 24)) 9 (.string s)
  rw [World.size_alloc] at bN
  have hB0 : Below w.heap.size w ((w.alloc (.cells #[.slice none 0 0] 24)).alloc (.cells #[.string s] 9)) := ((Below.refl _ w).alloc (Nat.le_refl _) _).alloc (by simp) _
  refine wp_range (T := 89) (gf := 61) (lb := #[.pointer (some ⟨w.heap.size + 1, 0, none⟩)]) rfl (enters_of Try.func61 (by kernel_rfl) rfl)
    (iter_seq s (w.heap.size + 1) _ (by simp) bN) (fun h k => h.trans k) (fun W l o o' hl h ho => KeepP.put W l o o' (by simp at hl; omega) h ho) (Below.refl _ _) (fun _ => rfl)
    (fun pre W => (∃ v, Boxed W w.heap.size 24 v ∧ W.ownsRow (w.heap.size + 2) 9 1 v pre.length (pre.map Value.string) ∧ True) ∧ Below w.heap.size w W ∧ w.heap.size + 2 ≤ W.heap.size)
    (OwnFrom.and (Own.from (holdsRow_own (w.heap.size + 2) w.heap.size 24 9 1 (fun pre : List ByteArray => pre.length) (fun pre => pre.map Value.string) (fun _ _ => True)) _) (OwnFrom.and (ownFrom_below (Nat.le_refl _) (by simp; omega)) (fun _ _ _ _ hs hg _ => Nat.le_trans hs hg.size)))
    (rowBox_abT w w.heap.size (w.heap.size + 2) _ (by simp; omega)) ⟨⟨_, bO.alloc _, World.ownsRow_nil _ _ _ _, trivial⟩, hB0, by simp⟩
    (fun x => { tmps := #[.string s, undef, .slice none 0 0, .pointer (some ⟨w.heap.size, 0, none⟩), .string x, .string s, .func (.func 61) #[] #[.pointer (some ⟨w.heap.size + 1, 0, none⟩)], .string x, undef, undef, undef, undef, undef, undef], defers := [] }) ?assign ?body ?done
  case assign =>
    intro l x W K hK
    gi_wp2
    exact hK
  case body =>
    rintro l pre x W ⟨⟨v, hv, hrow, _⟩, hB, hsz⟩ hpx
    have hc := hv.cell
    have hx : x.size ≤ 281474976710656 := Nat.le_trans (piecesOf_size s x (hpx.subset (by simp))) (by omega)
    have hpl : pre.length + 1 ≤ 3000 := by have := hpx.length_le; have := piecesOf_len s; simp at *; omega
    clear hpx bO bN hB0
    gi_wp2_with fail
    refine wpIn_region_any (by kernel_rfl) ?_
    change wpAnyIn _ _ _ _ _ _ _ _ _ (World.drew _)
    refine wpAnyIn_ready (rs := [0, 1]) (by kernel_rfl) (by simp) ?_
    refine AllReadyIn.cons rfl (fun K hK => ?_) (AllReadyIn.cons rfl (fun K hK => ?_) AllReadyIn.nil)
    · go_simp
      refine hK _ _ ?_; clear hK K
      refine wpAnyIn_ready (rs := [1]) (by kernel_rfl) (by simp) ?_
      refine AllReadyIn.cons rfl (fun K hK => ?_) AllReadyIn.nil
      go_simp
      refine hK _ _ ?_; clear hK K
      refine wpAnyIn_ready (rs := [2]) (by kernel_rfl) (by simp) ?_
      refine AllReadyIn.cons rfl (fun K hK => ?_) AllReadyIn.nil
      go_simp
      refine ⟨trivial, rfl, (CallsIn.inRound l (callsIn_wide.2 (stringsClone_any x _ hx))).mono ?_⟩
      rintro e w1 ⟨rfl, hb0⟩
      have hb1 : Below W.heap.size W w1 := ⟨hb0.os, hb0.tape, hb0.output, hb0.size, hb0.block⟩
      clear hb0
      have hv1 : Boxed w1 w.heap.size 24 v := Below.boxed hb1 hv
      have hrow1 := Below.row hb1 hrow
      have hs1 : W.heap.size ≤ w1.heap.size := hb1.size
      have hc1 := hv1.cell
      have hc1a := (hv1.alloc (.cells #[.string x] 9)).cell
      refine hK _ _ ?_; clear hK K
      refine wpAnyIn_ready (rs := [3]) (by kernel_rfl) (by simp) ?_
      refine AllReadyIn.cons rfl (fun K hK => ?_) AllReadyIn.nil
      go_simp
      refine hK _ _ ?_; clear hK K
      refine wpAnyIn_ready (rs := [4]) (by kernel_rfl) (by simp) ?_
      refine AllReadyIn.cons rfl (fun K hK => ?_) AllReadyIn.nil
      refine stepIn_append_own rfl (.tmp 8) (.tmp 11) 24 rfl (w.heap.size + 2) 9 i0 (.string ⟨#[]⟩) 1 16 Try.underlying24 hi hz0 hz1 hz2 rfl (by decide) v pre.length _ rfl (hrow1.alloc _) ⟨w1.heap.size, 0, none⟩ 1 1 [.string x] rfl rfl (cell_one_new _ _ _) (by simp [Value.oneCell']) (by unfold maxLen; omega) (by omega) (by simp; omega) ?_
      intro v' w2 hown' hgrow
      obtain ⟨g', cap', rfl⟩ := ownsRow_succ hown'
      obtain ⟨hv2, hv3, hr3, hb3, hkeep⟩ := row_stored hv1 hrow1 (by omega) (by omega) hown' hgrow
      have hc2 := hv2.cell
      have hf2 := hv2.frozen
      refine hK _ _ ?_; clear hK K
      refine wpAnyIn_ready (rs := [5]) (by kernel_rfl) (by simp) ?_
      refine AllReadyIn.cons rfl (fun K hK => ?_) AllReadyIn.nil
      go_simp
      refine hK _ _ ?_; clear hK K
      refine wpAnyIn_done (by kernel_rfl) ?_ _
      exact body_end hv hb1 hsz hB hv3 hr3 hb3 hkeep
    · go_simp
      refine hK _ _ ?_; clear hK K
      refine wpAnyIn_ready (rs := [0, 2]) (by kernel_rfl) (by simp) ?_
      refine AllReadyIn.cons rfl (fun K hK => ?_) (AllReadyIn.cons rfl (fun K hK => ?_) AllReadyIn.nil)
      · go_simp
        refine hK _ _ ?_; clear hK K
        refine wpAnyIn_ready (rs := [2]) (by kernel_rfl) (by simp) ?_
        refine AllReadyIn.cons rfl (fun K hK => ?_) AllReadyIn.nil
        go_simp
        refine ⟨trivial, rfl, (CallsIn.inRound l (callsIn_wide.2 (stringsClone_any x _ hx))).mono ?_⟩
        rintro e w1 ⟨rfl, hb0⟩
        have hb1 : Below W.heap.size W w1 := ⟨hb0.os, hb0.tape, hb0.output, hb0.size, hb0.block⟩
        clear hb0
        have hv1 : Boxed w1 w.heap.size 24 v := Below.boxed hb1 hv
        have hrow1 := Below.row hb1 hrow
        have hs1 : W.heap.size ≤ w1.heap.size := hb1.size
        have hc1 := hv1.cell
        have hc1a := (hv1.alloc (.cells #[.string x] 9)).cell
        refine hK _ _ ?_; clear hK K
        refine wpAnyIn_ready (rs := [3]) (by kernel_rfl) (by simp) ?_
        refine AllReadyIn.cons rfl (fun K hK => ?_) AllReadyIn.nil
        go_simp
        refine hK _ _ ?_; clear hK K
        refine wpAnyIn_ready (rs := [4]) (by kernel_rfl) (by simp) ?_
        refine AllReadyIn.cons rfl (fun K hK => ?_) AllReadyIn.nil
        refine stepIn_append_own rfl (.tmp 8) (.tmp 11) 24 rfl (w.heap.size + 2) 9 i0 (.string ⟨#[]⟩) 1 16 Try.underlying24 hi hz0 hz1 hz2 rfl (by decide) v pre.length _ rfl (hrow1.alloc _) ⟨w1.heap.size, 0, none⟩ 1 1 [.string x] rfl rfl (cell_one_new _ _ _) (by simp [Value.oneCell']) (by unfold maxLen; omega) (by omega) (by simp; omega) ?_
        intro v' w2 hown' hgrow
        obtain ⟨g', cap', rfl⟩ := ownsRow_succ hown'
        obtain ⟨hv2, hv3, hr3, hb3, hkeep⟩ := row_stored hv1 hrow1 (by omega) (by omega) hown' hgrow
        have hc2 := hv2.cell
        have hf2 := hv2.frozen
        refine hK _ _ ?_; clear hK K
        refine wpAnyIn_ready (rs := [5]) (by kernel_rfl) (by simp) ?_
        refine AllReadyIn.cons rfl (fun K hK => ?_) AllReadyIn.nil
        go_simp
        refine hK _ _ ?_; clear hK K
        refine wpAnyIn_done (by kernel_rfl) ?_ _
        exact body_end hv hb1 hsz hB hv3 hr3 hb3 hkeep
      · go_simp
        refine ⟨trivial, rfl, (CallsIn.inRound l (callsIn_wide.2 (stringsClone_any x _ hx))).mono ?_⟩
        rintro e w1 ⟨rfl, hb0⟩
        have hb1 : Below W.heap.size W w1 := ⟨hb0.os, hb0.tape, hb0.output, hb0.size, hb0.block⟩
        clear hb0
        have hv1 : Boxed w1 w.heap.size 24 v := Below.boxed hb1 hv
        have hrow1 := Below.row hb1 hrow
        have hs1 : W.heap.size ≤ w1.heap.size := hb1.size
        have hc1 := hv1.cell
        have hc1a := (hv1.alloc (.cells #[.string x] 9)).cell
        refine hK _ _ ?_; clear hK K
        refine wpAnyIn_ready (rs := [0, 3]) (by kernel_rfl) (by simp) ?_
        refine AllReadyIn.cons rfl (fun K hK => ?_) (AllReadyIn.cons rfl (fun K hK => ?_) AllReadyIn.nil)
        · go_simp
          refine hK _ _ ?_; clear hK K
          refine wpAnyIn_ready (rs := [3]) (by kernel_rfl) (by simp) ?_
          refine AllReadyIn.cons rfl (fun K hK => ?_) AllReadyIn.nil
          go_simp
          refine hK _ _ ?_; clear hK K
          refine wpAnyIn_ready (rs := [4]) (by kernel_rfl) (by simp) ?_
          refine AllReadyIn.cons rfl (fun K hK => ?_) AllReadyIn.nil
          refine stepIn_append_own rfl (.tmp 8) (.tmp 11) 24 rfl (w.heap.size + 2) 9 i0 (.string ⟨#[]⟩) 1 16 Try.underlying24 hi hz0 hz1 hz2 rfl (by decide) v pre.length _ rfl (hrow1.alloc _) ⟨w1.heap.size, 0, none⟩ 1 1 [.string x] rfl rfl (cell_one_new _ _ _) (by simp [Value.oneCell']) (by unfold maxLen; omega) (by omega) (by simp; omega) ?_
          intro v' w2 hown' hgrow
          obtain ⟨g', cap', rfl⟩ := ownsRow_succ hown'
          obtain ⟨hv2, hv3, hr3, hb3, hkeep⟩ := row_stored hv1 hrow1 (by omega) (by omega) hown' hgrow
          have hc2 := hv2.cell
          have hf2 := hv2.frozen
          refine hK _ _ ?_; clear hK K
          refine wpAnyIn_ready (rs := [5]) (by kernel_rfl) (by simp) ?_
          refine AllReadyIn.cons rfl (fun K hK => ?_) AllReadyIn.nil
          go_simp
          refine hK _ _ ?_; clear hK K
          refine wpAnyIn_done (by kernel_rfl) ?_ _
          exact body_end hv hb1 hsz hB hv3 hr3 hb3 hkeep
        · go_simp
          refine hK _ _ ?_; clear hK K
          refine wpAnyIn_ready (rs := [0]) (by kernel_rfl) (by simp) ?_
          refine AllReadyIn.cons rfl (fun K hK => ?_) AllReadyIn.nil
          go_simp
          refine hK _ _ ?_; clear hK K
          refine wpAnyIn_ready (rs := [4]) (by kernel_rfl) (by simp) ?_
          refine AllReadyIn.cons rfl (fun K hK => ?_) AllReadyIn.nil
          refine stepIn_append_own rfl (.tmp 8) (.tmp 11) 24 rfl (w.heap.size + 2) 9 i0 (.string ⟨#[]⟩) 1 16 Try.underlying24 hi hz0 hz1 hz2 rfl (by decide) v pre.length _ rfl (hrow1.alloc _) ⟨w1.heap.size, 0, none⟩ 1 1 [.string x] rfl rfl (cell_one_new _ _ _) (by simp [Value.oneCell']) (by unfold maxLen; omega) (by omega) (by simp; omega) ?_
          intro v' w2 hown' hgrow
          obtain ⟨g', cap', rfl⟩ := ownsRow_succ hown'
          obtain ⟨hv2, hv3, hr3, hb3, hkeep⟩ := row_stored hv1 hrow1 (by omega) (by omega) hown' hgrow
          have hc2 := hv2.cell
          have hf2 := hv2.frozen
          refine hK _ _ ?_; clear hK K
          refine wpAnyIn_ready (rs := [5]) (by kernel_rfl) (by simp) ?_
          refine AllReadyIn.cons rfl (fun K hK => ?_) AllReadyIn.nil
          go_simp
          refine hK _ _ ?_; clear hK K
          refine wpAnyIn_done (by kernel_rfl) ?_ _
          exact body_end hv hb1 hsz hB hv3 hr3 hb3 hkeep
  case done =>
    rintro D W hD ⟨⟨v, hv, hrow, _⟩, hB, _⟩ hK
    have hc := hv.cell
    gi_wp2
    refine ⟨by simp, .inl ⟨_, _, rfl, run_takeDeferred hK, ?_⟩⟩
    exact ⟨_, results_tmp rfl _ _ _, v, rfl, ownsRow_base (ownsRow_putObj hrow _ hK rfl) (by omega), hB.trans (belowK_b (w := w) (Nat.le_refl _) W D _ _ (by simp at hD; omega) hK rfl rfl)⟩
end Go.Proofs.Ytohnffbcgancfaa
