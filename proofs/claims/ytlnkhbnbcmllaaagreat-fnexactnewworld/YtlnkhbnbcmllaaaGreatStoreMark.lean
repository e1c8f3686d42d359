/- laws.markStore and laws.heldStore. -/
import Derived.Test.YtlnkhbnbcmllaaaGreatGetSpec
import Derived.Test.YtlnkhbnbcmllaaaGreatMark2
namespace Go.Proofs.YtlnkhbnbcmllaaaGreat
open Go.RowKit
/-- Items with marks: the k-th on. -/
def marksI (k n : Nat) : Itms := (List.range n).map fun i => (markB (k + 2 * i), ((k + 2 * i + 1 : Nat) : Int))
theorem marksI_len (k n : Nat) : (marksI k n).length = n := by simp [marksI]
theorem marksI_tx (k n i : Nat) (h : i < n) : itx (marksI k n) i = markB (k + 2 * i) := by simp [marksI, itx, h]
theorem marksI_us (k n i : Nat) (h : i < n) : itu (marksI k n) i = ((k + 2 * i + 1 : Nat) : Int) := by simp [marksI, itu, h]
/-- Items of which the first m have been marked. -/
def mixI (k m : Nat) (its : Itms) : Itms := (marksI k m) ++ its.drop m
theorem mixI_len (k m : Nat) (its : Itms) (h : m ≤ its.length) : (mixI k m its).length = its.length := by simp [mixI, marksI_len]; omega
theorem mixI_zero (k : Nat) (its : Itms) : mixI k 0 its = its := by simp [mixI, marksI]
theorem mixI_all (k : Nat) (its : Itms) : mixI k its.length its = marksI k its.length := by simp [mixI]
theorem mixI_succ (k m : Nat) (its : Itms) (h : m < its.length) : (mixI k m its).set m (markB (k + 2 * m), ((k + 2 * m + 1 : Nat) : Int)) = mixI k (m + 1) its := by
  unfold mixI
  rw [List.set_append_right _ _ (by rw [marksI_len]; exact Nat.le_refl _), marksI_len, Nat.sub_self, List.drop_eq_getElem_cons h, List.set_cons_zero]
  unfold marksI
  rw [List.range_succ, List.map_append]
  simp
theorem cellsI_set2 (its : Itms) (i : Nat) (t : ByteArray) (u : Int) (h : i < its.length) : ((cellsI its).set (i * 2) (.string t)).set (i * 2 + 1) (.int .i64 u) = cellsI (its.set i (t, u)) := by
  induction its generalizing i with
  | nil => simp at h
  | cons p r ih =>
    cases i with
    | zero => simp [cellsI]
    | succ i =>
      have := ih i (by simpa using h)
      have e : (i + 1) * 2 = i * 2 + 1 + 1 := by omega
      rw [e]
      simpa [cellsI] using this
set_option maxRecDepth 100000 in
set_option maxHeartbeats 1000000 in
theorem markItemS_grown (v : Value) (k base : Nat) (its : Itms) (w : World) (hown : w.ownsRow base 84 2 v its.length (cellsI its)) (h1 : 1 ≤ k) (h2 : k + 2 * its.length ≤ 4400000) :
    Calls Tryz.prog 33 #[v, .int .i64 k] w fun e w' => e = .returned (.int .i64 ((k + 2 * its.length : Nat) : Int)) ∧ w'.ownsRow base 84 2 v its.length (cellsI (marksI k its.length)) ∧ w.grownBy w' v.ownBlock := by
  obtain ⟨a, cap, rfl⟩ := row_any hown
  have hform : 0 < its.length → ∃ g, a = some ⟨g, 0, none⟩ := fun h => by
    rcases hown with ⟨_, ⟨e, h0⟩ | ⟨g, cap', cur, e, _⟩⟩
    · omega
    · cases e; exact ⟨g, rfl⟩
  have HW := hid hown
  clear hown
  go_enter Tryz.func33, Tryz.ntmps33
  go_wp2
  go_loopw [1, 5] (fun x i wr => ∃ m : Nat, m ≤ its.length ∧ i = .int .i64 m ∧ x = .int .i64 ((k + 2 * m : Nat) : Int) ∧ wr.ownsRow base 84 2 (.slice a its.length cap) its.length (cellsI (mixI k m its)) ∧ w.grownBy wr (Value.slice a its.length cap).ownBlock) (fun _ i _ => its.length - (intOf i).toNat)
  case atStart => exact ⟨0, Nat.zero_le _, rfl, rfl, by rw [mixI_zero]; exact HW.out, grown_refl2 _ _⟩
  case round =>
    obtain ⟨m, hm, rfl, rfl, hr, hb⟩ := hrel
    by_cases hlt : m < its.length
    · obtain ⟨g, rfl⟩ := hform (by omega)
      have HM := hid fun W => markText_any (k + 2 * m) W (by omega) (by omega)
      have HX := hid (mixI_succ k m its hlt)
      have hlm := mixI_len k m its hm
      obtain ⟨j, hj⟩ : ∃ j, j = k + 2 * m := ⟨_, rfl⟩
      rw [← hj] at HM HX ⊢
      have HJ := hid hj
      have hj2 : j ≤ 4399998 := by omega
      have HB := hid hb
      have HC := hid (cellsI_at (mixI k m its) m (by rw [hlm]; exact hlt))
      have HC2 := hid (cellsI_set2 (mixI k m its) m (markB j) ((j + 1 : Nat) : Int) (by rw [hlm]; exact hlt))
      clear hj hb
      generalize markB j = q at *
      generalize itx (mixI k m its) m = t0 at *
      generalize itu (mixI k m its) m = u0 at *
      have hwj : IntKind.i64.wrap ((j : Int) + 1) = ((j + 1 : Nat) : Int) := by rw [IntKind.wrap_i64]; omega
      go_wp2_with (go_at_call 64; refine (HM.out _).mono ?_; rintro e w1 ⟨rfl, hb1⟩; have hr1 := hr.kept (grown_of_below hb1) (.inr (by simp [Value.ownBlock])); have e1 := (hr1.cellAt (m * 2) (by omega)).trans HC.out.1; have e2 := hr1.frozenAt (m * 2); have hr2 := (hr1.stored (m * 2) (.string q)).1; have e3 := (hr2.cellAt (m * 2 + 1) (by omega)).trans ((List.getElem?_set_ne (by omega)).trans HC.out.2); have e4 := hr2.frozenAt (m * 2 + 1); have hr3 := (hr2.stored (m * 2 + 1) (.int .i64 ((j + 1 : Nat) : Int))).1; clear hr)
      rw [HC2.out] at hr3
      refine ⟨⟨m + 1, by omega, by go_num, by rw [HJ.out]; go_num, by rw [← HX.out]; first | exact hr3 | (simpa using hr3), ?_⟩, by simp [intOf]; omega⟩
      exact grown_same (grown_same (grown_same HB.out (grown_below' hb1)) (grownBy_setCellAt w1 g (m * 2) (.string q))) (grownBy_setCellAt _ g (m * 2 + 1) _)
    · obtain rfl : m = its.length := by omega
      have HB := hid hb
      rw [mixI_all] at hr
      have HR := hid hr
      clear hb hr
      go_wp2
      go_ret
      exact ⟨rfl, HR.out, HB.out⟩
set_option maxRecDepth 100000 in
set_option maxHeartbeats 1000000 in
theorem heldItemS_any (v : Value) (k n : Nat) (w : World) (hv : RdI w v (marksI k n)) (h1 : 1 ≤ k) (h2 : k + 2 * n ≤ 4400000) :
    Calls Tryz.prog 67 #[v, .int .i64 k] w fun e w' => e = .returned (.int .i64 ((k + 2 * n : Nat) : Int)) ∧ Below w.heap.size w w' := by
  obtain ⟨a, ca, rfl, hca⟩ := hv
  rw [marksI_len]
  rw [marksI_len] at hca
  have HC := hid hca
  have hec := enters_of Tryz.func64 (by kernel_rfl) rfl
  clear hca
  go_enter Tryz.func67, Tryz.ntmps67
  go_wp2
  go_loopw [1, 5] (fun x i wr => ∃ m : Nat, m ≤ n ∧ i = .int .i64 m ∧ x = .int .i64 ((k + 2 * m : Nat) : Int) ∧ Below w.heap.size w wr) (fun _ i _ => n - (intOf i).toNat)
  case atStart => exact ⟨0, Nat.zero_le _, rfl, rfl, Below.refl _ _⟩
  case round =>
    obtain ⟨m, hm, rfl, rfl, hb⟩ := hrel
    by_cases hlt : m < n
    · obtain ⟨b, o, rfl, hbw, hc1, hc2⟩ := HC.out m hlt
      rw [marksI_tx k n m hlt] at hc1
      rw [marksI_us k n m hlt] at hc2
      have d1 := (hb.cell (p := ⟨b, o + m * 2, none⟩) hbw).trans hc1
      have d2 := (hb.cell (p := ⟨b, o + m * 2 + 1, none⟩) hbw).trans hc2
      have hbr : b < wr.heap.size := Nat.lt_of_lt_of_le hbw hb.size
      have HM := hid fun W => markText_any (k + 2 * m) W (by omega) (by omega)
      obtain ⟨j, hj⟩ : ∃ j, j = k + 2 * m := ⟨_, rfl⟩
      rw [← hj] at HM d1 d2 ⊢
      have HJ := hid hj
      have hj2 : j ≤ 4399998 := by omega
      have HB := hid hb
      clear hj hb hc1 hc2
      generalize markB j = q at *
      have hwj : IntKind.i64.wrap ((j : Int) + 1) = (j : Int) + 1 := by rw [IntKind.wrap_i64]; omega
      have hS0 : wr.drew.cell? ⟨b, o + m * 2, none⟩ = some (.string q) := d1
      go_wp2_with fail
      refine wp_region_held (S := fun w' => w'.cell? ⟨b, o + m * 2, none⟩ = some (.string q)) (by kernel_rfl) ?_
      change wpAnyH _ _ _ _ _ _ _ _ (World.drew _)
      refine wpAnyH_take (i := 0) (v := .slice (some ⟨b, o, none⟩) n ca) rfl (by kernel_rfl) (by kernel_rfl) (by kernel_rfl) (fun _ _ _ h => h) (.inl ⟨rfl, fun w' hS => by obtain s1 := hS; go_simp⟩) hS0 ?_
      refine wpAnyH_take (i := 1) (v := .int .i64 (m : Nat)) rfl (by kernel_rfl) (by kernel_rfl) (by kernel_rfl) (fun _ _ _ h => h) (.inl ⟨rfl, fun w' hS => by obtain s1 := hS; go_simp⟩) hS0 ?_
      refine wpAnyH_take (i := 2) (v := .pointer (some ⟨b, o + m * 2, none⟩)) rfl (by kernel_rfl) (by kernel_rfl) (by kernel_rfl) (fun _ _ _ h => h) (.inl ⟨rfl, fun w' hS => by obtain s1 := hS; go_simp⟩) hS0 ?_
      refine wpAnyH_take (i := 3) (v := .pointer (some ⟨b, o + m * 2, none⟩)) rfl (by kernel_rfl) (by kernel_rfl) (by kernel_rfl) (fun _ _ _ h => h) (.inl ⟨rfl, fun w' hS => by obtain s1 := hS; go_simp⟩) hS0 ?_
      refine wpAnyH_take (i := 4) (v := .string q) rfl (by kernel_rfl) (by kernel_rfl) (by kernel_rfl) (fun _ _ _ h => h) (.inl ⟨rfl, fun w' hS => by obtain s1 := hS; go_simp⟩) hS0 ?_
      refine wpAnyH_take (i := 5) (v := .int .i64 (j : Nat)) rfl (by kernel_rfl) (by kernel_rfl) (by kernel_rfl) (fun _ _ _ h => h) (.inl ⟨rfl, fun w' hS => by obtain s1 := hS; go_simp⟩) hS0 ?_
      refine held_one 6 (by kernel_rfl) (op_calls (f := 64) (args := #[.int .i64 j]) rfl rfl (by go_simp) (HM.out _) ?_)
      rintro e w1 ⟨rfl, hb1⟩
      have hb1' : Below wr.heap.size wr w1 := ⟨hb1.os, hb1.tape, hb1.output, hb1.size, hb1.block⟩
      have hS1 : w1.cell? ⟨b, o + m * 2, none⟩ = some (.string q) := (hb1'.cell (p := ⟨b, o + m * 2, none⟩) hbr).trans d1
      have e2 := (hb1'.cell (p := ⟨b, o + m * 2 + 1, none⟩) hbr).trans d2
      have HB1 := hid (HB.out.trans (hb1'.mono HB.out.size))
      clear hb1 hb1' hS0 d1 d2
      refine ⟨_, rfl, hS1, ?_⟩
      refine wpAnyH_take (i := 7) (v := .bool false) rfl (by kernel_rfl) (by kernel_rfl) (by kernel_rfl) (fun _ _ _ h => h) (.inl ⟨rfl, fun w' hS => by obtain s1 := hS; go_simp⟩) hS1 ?_
      refine wpAnyH_done (by kernel_rfl) ?_ _
      clear hS1
      go_simp
      go_wp2
      refine ⟨⟨m + 1, by omega, by go_num, by rw [HJ.out]; go_num, HB1.out⟩, by simp [intOf]; omega⟩
    · obtain rfl : m = n := by omega
      go_wp2
      go_ret
      exact ⟨rfl, hb⟩
set_option maxRecDepth 100000 in
set_option maxHeartbeats 1000000 in
theorem markStore_any (wd room : Int) (vi vp : Value) (B : Nat) (its : Itms) (ts : List ByteArray) (w : World) (h : StoreOwn w B vi vp its ts) (hl : 2 * its.length + ts.length ≤ 4300000) :
    Calls Tryz.prog 31 #[.agg #[.int .i64 wd, .int .i64 room, vi, vp], .int .i64 1] w fun e w' => e = .returned (.int .i64 ((1 + 2 * its.length + ts.length : Nat) : Int)) ∧ StoreOwn w' B vi vp (marksI 1 its.length) (marks (1 + 2 * its.length) ts.length) ∧ (∀ b, b < w.heap.size → vi.ownBlock ≠ some b → vp.ownBlock ≠ some b → w'.heap[b]? = w.heap[b]?) ∧ w.heap.size ≤ w'.heap.size ∧ (∀ B', (∀ g, vi.ownBlock = some g → B' ≤ g) → (∀ g, vp.ownBlock = some g → B' ≤ g) → B' ≤ w.heap.size → Below B' w w') := by
  have hA := (Below.refl w.heap.size w).alloc (Nat.le_refl _) (.cells #[.int .i64 wd, .int .i64 room, vi, vp] 34)
  have h' := h.below hA
  have HMI := hid (markItemS_grown vi 1 B its _ h'.items (by omega) (by omega))
  have HMP := hid fun W (hw : W.ownsRow B 9 1 vp ts.length (ts.map Value.string)) => markStringS_grown vp (1 + 2 * its.length) B ts W hw (by omega) (by omega)
  have HN := hid (Blk.new w 34 #[.int .i64 wd, .int .i64 room, vi, vp])
  have HP := hid h'.pins
  have HI := hid h'.items
  have HAP := hid h.apart
  have HLI := hid h.items.lt
  have HLP := hid h.pins.lt
  obtain ⟨ai, ci, rfl⟩ := row_any h.items
  obtain ⟨ap, cp, rfl⟩ := row_any h.pins
  clear h h' hA
  go_enter Tryz.func31, Tryz.ntmps31
  go_wp2_with fail
  refine HMI.out.mono ?_
  rintro e w1 ⟨rfl, ho1, hg1⟩
  have hn0 : (Value.slice ai its.length ci).ownBlock ≠ some w.heap.size := fun e => by have := (HLI.out _ e).2; omega
  have N1 := HN.out.kept hg1 (fun e => hn0 e.symm)
  have P1 := HP.out.kept hg1 (by
    cases hv : (Value.slice ap ts.length cp).ownBlock with
    | none => exact .inl rfl
    | some g => exact .inr fun e => HAP.out g e.symm hv)
  have x3 : w1.cell? ⟨w.heap.size, 3, none⟩ = some (.slice ap ts.length cp) := N1.cell 3
  have HM2 := hid (HMP.out w1 P1)
  have HO1 := hid ho1
  have HG1 := hid hg1
  clear N1 P1 ho1 hg1
  go_wp2_with fail
  refine HM2.out.mono ?_
  rintro e w2 ⟨rfl, ho2, hg2⟩
  have OI := hid (HO1.out.kept hg2 (by
    cases hv : (Value.slice ai its.length ci).ownBlock with
    | none => exact .inl rfl
    | some g => exact .inr fun e => HAP.out g hv e.symm))
  have HO2 := hid ho2
  have HG2 := hid hg2
  have hsz1 := HG1.out.size
  have hsz2 := hg2.size
  rw [World.size_alloc] at hsz1
  clear ho2 hg2
  go_wp2
  go_ret
  refine ⟨rfl, ⟨by rw [marksI_len]; exact OI.out, by rw [marks_length]; exact HO2.out, HAP.out⟩, fun b hb h1 h2 => ?_, by omega, fun B' hi' hp' hB' => ?_⟩
  · exact ((HG2.out.block b (by omega) (fun e => h2 e.symm)).trans (HG1.out.block b (by simp; omega) (fun e => h1 e.symm))).trans (Below.heap_alloc w _ b hb)
  · have k1 := ((Below.refl B' w).alloc hB' (.cells #[.int .i64 wd, .int .i64 room, .slice ai its.length ci, .slice ap ts.length cp] 34)).grown HG1.out (by simp; omega) hi'
    exact k1.grown HG2.out (by omega) hp'
set_option maxRecDepth 100000 in
set_option maxHeartbeats 1000000 in
theorem heldStore_any (wd room : Int) (vi vp : Value) (ni np : Nat) (w : World) (hi : RdI w vi (marksI 1 ni)) (hp : Reads w vp (marks (1 + 2 * ni) np)) (hl : 2 * ni + np ≤ 4300000) :
    Calls Tryz.prog 65 #[.agg #[.int .i64 wd, .int .i64 room, vi, vp], .int .i64 1] w fun e w' => e = .returned (.int .i64 ((1 + 2 * ni + np : Nat) : Int)) ∧ Below w.heap.size w w' := by
  have hA := (Below.refl w.heap.size w).alloc (Nat.le_refl _) (.cells #[.int .i64 wd, .int .i64 room, vi, vp] 34)
  have HHI := hid (heldItemS_any vi 1 ni _ (hi.below hA) (by omega) (by omega))
  have HHP := hid fun W h => heldStringS_any vp (1 + 2 * ni) np W h (by omega) (by omega)
  have HN := hid (Blk.new w 34 #[.int .i64 wd, .int .i64 room, vi, vp])
  have HP := hid (hp.below hA)
  have HA := hid hA
  obtain ⟨ai, ci, rfl, _⟩ := hi
  obtain ⟨ap, cp, rfl, _⟩ := hp.form
  clear hp hA
  go_enter Tryz.func65, Tryz.ntmps65
  go_wp2_with fail
  refine HHI.out.mono ?_
  rintro e w1 ⟨rfl, hb1⟩
  have x3 : w1.cell? ⟨w.heap.size, 3, none⟩ = _ := (HN.out.below hb1).cell 3
  have HP1 := hid (HHP.out w1 (HP.out.below hb1))
  have HB1 := hid (HA.out.trans (hb1.mono (by simp)))
  have hnn : ¬ (((1 + 2 * ni : Nat) : Int) < 0) := by omega
  clear hb1
  go_wp2_with fail
  refine HP1.out.mono ?_
  rintro e w2 ⟨rfl, hb2⟩
  have HB2 := hid (HB1.out.trans (hb2.mono HB1.out.size))
  have hnn2 : ¬ (((1 + 2 * ni + np : Nat) : Int) < 0) := by omega
  clear hb2
  go_wp2
  go_ret
  exact ⟨rfl, HB2.out⟩
end Go.Proofs.YtlnkhbnbcmllaaaGreat
