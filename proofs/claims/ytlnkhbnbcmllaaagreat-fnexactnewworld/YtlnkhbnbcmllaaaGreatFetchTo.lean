import Derived.Test.YtlnkhbnbcmllaaaGreatGetImpl
import Derived.Test.YtlnkhbnbcmllaaaGreatMark2
import Derived.Test.YtlnkhbnbcmllaaaGreatPeers
import Derived.Laws.MakeOwn
/- laws.markStore and laws.heldStore. -/
namespace Go.Proofs.YtlnkhbnbcmllaaaGreat
open Go.RowKit
/-- Items with marks: the k-th on. -/
def marksI (k n : Nat) : Itms := (List.range n).map fun i => (markB (k + 2 * i), ((k + 2 * i + 1 : Nat) : Int))
theorem marksI_len (k n : Nat) : (marksI k n).length = n := by simp [marksI]
theorem marksI_tx (k n i : Nat) (h : i < n) : itx (marksI k n) i = markB (k + 2 * i) := by simp [marksI, itx, h]
theorem marksI_us (k n i : Nat) (h : i < n) : itu (marksI k n) i = ((k + 2 * i + 1 : Nat) : Int) := by simp [marksI, itu, h]
/-- Items of which the first m have been marked. -/
def mixI (k m : Nat) (its : Itms) : Itms := (marksI k m) ++ its.drop m
theorem mixI_len (k m : Nat) (its : Itms) (h : m ≤ its.length) : (mixI k m its).length = its.length := by simp [mixI, marksI_len]; omega
theorem mixI_zero (k : Nat) (its : Itms) : mixI k 0 its = its := by simp [mixI, marksI]
theorem mixI_all (k : Nat) (its : Itms) : mixI k its.length its = marksI k its.length := by simp [mixI]
theorem mixI_succ (k m : Nat) (its : Itms) (h : m < its.length) : (mixI k m its).set m (markB (k + 2 * m), ((k + 2 * m + 1 : Nat) : Int)) = mixI k (m + 1) its := by
  unfold mixI
  rw [List.set_append_right _ _ (by rw [marksI_len]; exact Nat.le_refl _), marksI_len, Nat.sub_self, List.drop_eq_getElem_cons h, List.set_cons_zero]
  unfold marksI
  rw [List.range_succ, List.map_append]
  simp
theorem cellsI_set2 (its : Itms) (i : Nat) (t : ByteArray) (u : Int) (h : i < its.length) : ((cellsI its).set (i * 2) (.string t)).set (i * 2 + 1) (.int .i64 u) = cellsI (its.set i (t, u)) := by
  induction its generalizing i with
  | nil => simp at h
  | cons p r ih =>
    cases i with
    | zero => simp [cellsI]
    | succ i =>
      have := ih i (by simpa using h)
      have e : (i + 1) * 2 = i * 2 + 1 + 1 := by omega
      rw [e]
      simpa [cellsI] using this
set_option maxRecDepth 100000 in
set_option maxHeartbeats 1000000 in
theorem markItemS_grown (v : Value) (k base : Nat) (its : Itms) (w : World) (hown : w.ownsRow base 84 2 v its.length (cellsI its)) (h1 : 1 ≤ k) (h2 : k + 2 * its.length ≤ 4400000) :
    Calls Tryz.prog 33 #[v, .int .i64 k] w fun e w' => e = .returned (.int .i64 ((k + 2 * its.length : Nat) : Int)) ∧ w'.ownsRow base 84 2 v its.length (cellsI (marksI k its.length)) ∧ w.grownBy w' v.ownBlock := by
  obtain ⟨a, cap, rfl⟩ := row_any hown
  have hform : 0 < its.length → ∃ g, a = some ⟨g, 0, none⟩ := fun h => by
    rcases hown with ⟨_, ⟨e, h0⟩ | ⟨g, cap', cur, e, _⟩⟩
    · omega
    · cases e; exact ⟨g, rfl⟩
  have HW := hid hown
  clear hown
  go_enter Tryz.func33, Tryz.ntmps33
  go_wp2
  go_loopw [1, 5] (fun x i wr => ∃ m : Nat, m ≤ its.length ∧ i = .int .i64 m ∧ x = .int .i64 ((k + 2 * m : Nat) : Int) ∧ wr.ownsRow base 84 2 (.slice a its.length cap) its.length (cellsI (mixI k m its)) ∧ w.grownBy wr (Value.slice a its.length cap).ownBlock) (fun _ i _ => its.length - (intOf i).toNat)
  case atStart => exact ⟨0, Nat.zero_le _, rfl, rfl, by rw [mixI_zero]; exact HW.out, grown_refl2 _ _⟩
  case round =>
    obtain ⟨m, hm, rfl, rfl, hr, hb⟩ := hrel
    by_cases hlt : m < its.length
    · obtain ⟨g, rfl⟩ := hform (by omega)
      have HM := hid fun W => markText_any (k + 2 * m) W (by omega) (by omega)
      have HX := hid (mixI_succ k m its hlt)
      have hlm := mixI_len k m its hm
      obtain ⟨j, hj⟩ : ∃ j, j = k + 2 * m := ⟨_, rfl⟩
      rw [← hj] at HM HX ⊢
      have HJ := hid hj
      have hj2 : j ≤ 4399998 := by omega
      have HB := hid hb
      have HC := hid (cellsI_at (mixI k m its) m (by rw [hlm]; exact hlt))
      have HC2 := hid (cellsI_set2 (mixI k m its) m (markB j) ((j + 1 : Nat) : Int) (by rw [hlm]; exact hlt))
      clear hj hb
      generalize markB j = q at *
      generalize itx (mixI k m its) m = t0 at *
      generalize itu (mixI k m its) m = u0 at *
      have hwj : IntKind.i64.wrap ((j : Int) + 1) = ((j + 1 : Nat) : Int) := by rw [IntKind.wrap_i64]; omega
      go_wp2_with (go_at_call 64; refine (HM.out _).mono ?_; rintro e w1 ⟨rfl, hb1⟩; have hr1 := hr.kept (grown_of_below hb1) (.inr (by simp [Value.ownBlock])); have e1 := (hr1.cellAt (m * 2) (by omega)).trans HC.out.1; have e2 := hr1.frozenAt (m * 2); have hr2 := (hr1.stored (m * 2) (.string q)).1; have e3 := (hr2.cellAt (m * 2 + 1) (by omega)).trans ((List.getElem?_set_ne (by omega)).trans HC.out.2); have e4 := hr2.frozenAt (m * 2 + 1); have hr3 := (hr2.stored (m * 2 + 1) (.int .i64 ((j + 1 : Nat) : Int))).1; clear hr)
      rw [HC2.out] at hr3
      refine ⟨⟨m + 1, by omega, by go_num, by rw [HJ.out]; go_num, by rw [← HX.out]; first | exact hr3 | (simpa using hr3), ?_⟩, by simp [intOf]; omega⟩
      exact grown_same (grown_same (grown_same HB.out (grown_below' hb1)) (grownBy_setCellAt w1 g (m * 2) (.string q))) (grownBy_setCellAt _ g (m * 2 + 1) _)
    · obtain rfl : m = its.length := by omega
      have HB := hid hb
      rw [mixI_all] at hr
      have HR := hid hr
      clear hb hr
      go_wp2
      go_ret
      exact ⟨rfl, HR.out, HB.out⟩
set_option maxRecDepth 100000 in
set_option maxHeartbeats 1000000 in
theorem heldItemS_any (v : Value) (k n : Nat) (w : World) (hv : RdI w v (marksI k n)) (h1 : 1 ≤ k) (h2 : k + 2 * n ≤ 4400000) :
    Calls Tryz.prog 67 #[v, .int .i64 k] w fun e w' => e = .returned (.int .i64 ((k + 2 * n : Nat) : Int)) ∧ Below w.heap.size w w' := by
  obtain ⟨a, ca, rfl, hca⟩ := hv
  rw [marksI_len]
  rw [marksI_len] at hca
  have HC := hid hca
  have hec := enters_of Tryz.func64 (by kernel_rfl) rfl
  clear hca
  go_enter Tryz.func67, Tryz.ntmps67
  go_wp2
  go_loopw [1, 5] (fun x i wr => ∃ m : Nat, m ≤ n ∧ i = .int .i64 m ∧ x = .int .i64 ((k + 2 * m : Nat) : Int) ∧ Below w.heap.size w wr) (fun _ i _ => n - (intOf i).toNat)
  case atStart => exact ⟨0, Nat.zero_le _, rfl, rfl, Below.refl _ _⟩
  case round =>
    obtain ⟨m, hm, rfl, rfl, hb⟩ := hrel
    by_cases hlt : m < n
    · obtain ⟨b, o, rfl, hbw, hc1, hc2⟩ := HC.out m hlt
      rw [marksI_tx k n m hlt] at hc1
      rw [marksI_us k n m hlt] at hc2
      have d1 := (hb.cell (p := ⟨b, o + m * 2, none⟩) hbw).trans hc1
      have d2 := (hb.cell (p := ⟨b, o + m * 2 + 1, none⟩) hbw).trans hc2
      have hbr : b < wr.heap.size := Nat.lt_of_lt_of_le hbw hb.size
      have HM := hid fun W => markText_any (k + 2 * m) W (by omega) (by omega)
      obtain ⟨j, hj⟩ : ∃ j, j = k + 2 * m := ⟨_, rfl⟩
      rw [← hj] at HM d1 d2 ⊢
      have HJ := hid hj
      have hj2 : j ≤ 4399998 := by omega
      have HB := hid hb
      clear hj hb hc1 hc2
      generalize markB j = q at *
      have hwj : IntKind.i64.wrap ((j : Int) + 1) = (j : Int) + 1 := by rw [IntKind.wrap_i64]; omega
      have hS0 : wr.drew.cell? ⟨b, o + m * 2, none⟩ = some (.string q) := d1
      go_wp2_with fail
      refine wp_region_held (S := fun w' => w'.cell? ⟨b, o + m * 2, none⟩ = some (.string q)) (by kernel_rfl) ?_
      change wpAnyH _ _ _ _ _ _ _ _ (World.drew _)
      refine wpAnyH_take (i := 0) (v := .slice (some ⟨b, o, none⟩) n ca) rfl (by kernel_rfl) (by kernel_rfl) (by kernel_rfl) (fun _ _ _ h => h) (.inl ⟨rfl, fun w' hS => by obtain s1 := hS; go_simp⟩) hS0 ?_
      refine wpAnyH_take (i := 1) (v := .int .i64 (m : Nat)) rfl (by kernel_rfl) (by kernel_rfl) (by kernel_rfl) (fun _ _ _ h => h) (.inl ⟨rfl, fun w' hS => by obtain s1 := hS; go_simp⟩) hS0 ?_
      refine wpAnyH_take (i := 2) (v := .pointer (some ⟨b, o + m * 2, none⟩)) rfl (by kernel_rfl) (by kernel_rfl) (by kernel_rfl) (fun _ _ _ h => h) (.inl ⟨rfl, fun w' hS => by obtain s1 := hS; go_simp⟩) hS0 ?_
      refine wpAnyH_take (i := 3) (v := .pointer (some ⟨b, o + m * 2, none⟩)) rfl (by kernel_rfl) (by kernel_rfl) (by kernel_rfl) (fun _ _ _ h => h) (.inl ⟨rfl, fun w' hS => by obtain s1 := hS; go_simp⟩) hS0 ?_
      refine wpAnyH_take (i := 4) (v := .string q) rfl (by kernel_rfl) (by kernel_rfl) (by kernel_rfl) (fun _ _ _ h => h) (.inl ⟨rfl, fun w' hS => by obtain s1 := hS; go_simp⟩) hS0 ?_
      refine wpAnyH_take (i := 5) (v := .int .i64 (j : Nat)) rfl (by kernel_rfl) (by kernel_rfl) (by kernel_rfl) (fun _ _ _ h => h) (.inl ⟨rfl, fun w' hS => by obtain s1 := hS; go_simp⟩) hS0 ?_
      refine held_one 6 (by kernel_rfl) (op_calls (f := 64) (args := #[.int .i64 j]) rfl rfl (by go_simp) (HM.out _) ?_)
      rintro e w1 ⟨rfl, hb1⟩
      have hb1' : Below wr.heap.size wr w1 := ⟨hb1.os, hb1.tape, hb1.output, hb1.size, hb1.block⟩
      have hS1 : w1.cell? ⟨b, o + m * 2, none⟩ = some (.string q) := (hb1'.cell (p := ⟨b, o + m * 2, none⟩) hbr).trans d1
      have e2 := (hb1'.cell (p := ⟨b, o + m * 2 + 1, none⟩) hbr).trans d2
      have HB1 := hid (HB.out.trans (hb1'.mono HB.out.size))
      clear hb1 hb1' hS0 d1 d2
      refine ⟨_, rfl, hS1, ?_⟩
      refine wpAnyH_take (i := 7) (v := .bool false) rfl (by kernel_rfl) (by kernel_rfl) (by kernel_rfl) (fun _ _ _ h => h) (.inl ⟨rfl, fun w' hS => by obtain s1 := hS; go_simp⟩) hS1 ?_
      refine wpAnyH_done (by kernel_rfl) ?_ _
      clear hS1
      go_simp
      go_wp2
      refine ⟨⟨m + 1, by omega, by go_num, by rw [HJ.out]; go_num, HB1.out⟩, by simp [intOf]; omega⟩
    · obtain rfl : m = n := by omega
      go_wp2
      go_ret
      exact ⟨rfl, hb⟩
set_option maxRecDepth 100000 in
set_option maxHeartbeats 1000000 in
theorem markStore_any (wd room : Int) (vi vp : Value) (B : Nat) (its : Itms) (ts : List ByteArray) (w : World) (h : StoreOwn w B vi vp its ts) (hl : 2 * its.length + ts.length ≤ 4300000) :
    Calls Tryz.prog 31 #[.agg #[.int .i64 wd, .int .i64 room, vi, vp], .int .i64 1] w fun e w' => e = .returned (.int .i64 ((1 + 2 * its.length + ts.length : Nat) : Int)) ∧ StoreOwn w' B vi vp (marksI 1 its.length) (marks (1 + 2 * its.length) ts.length) ∧ (∀ b, b < w.heap.size → vi.ownBlock ≠ some b → vp.ownBlock ≠ some b → w'.heap[b]? = w.heap[b]?) ∧ w.heap.size ≤ w'.heap.size ∧ (∀ B', (∀ g, vi.ownBlock = some g → B' ≤ g) → (∀ g, vp.ownBlock = some g → B' ≤ g) → B' ≤ w.heap.size → Below B' w w') := by
  have hA := (Below.refl w.heap.size w).alloc (Nat.le_refl _) (.cells #[.int .i64 wd, .int .i64 room, vi, vp] 34)
  have h' := h.below hA
  have HMI := hid (markItemS_grown vi 1 B its _ h'.items (by omega) (by omega))
  have HMP := hid fun W (hw : W.ownsRow B 9 1 vp ts.length (ts.map Value.string)) => markStringS_grown vp (1 + 2 * its.length) B ts W hw (by omega) (by omega)
  have HN := hid (Blk.new w 34 #[.int .i64 wd, .int .i64 room, vi, vp])
  have HP := hid h'.pins
  have HI := hid h'.items
  have HAP := hid h.apart
  have HLI := hid h.items.lt
  have HLP := hid h.pins.lt
  obtain ⟨ai, ci, rfl⟩ := row_any h.items
  obtain ⟨ap, cp, rfl⟩ := row_any h.pins
  clear h h' hA
  go_enter Tryz.func31, Tryz.ntmps31
  go_wp2_with fail
  refine HMI.out.mono ?_
  rintro e w1 ⟨rfl, ho1, hg1⟩
  have hn0 : (Value.slice ai its.length ci).ownBlock ≠ some w.heap.size := fun e => by have := (HLI.out _ e).2; omega
  have N1 := HN.out.kept hg1 (fun e => hn0 e.symm)
  have P1 := HP.out.kept hg1 (by
    cases hv : (Value.slice ap ts.length cp).ownBlock with
    | none => exact .inl rfl
    | some g => exact .inr fun e => HAP.out g e.symm hv)
  have x3 : w1.cell? ⟨w.heap.size, 3, none⟩ = some (.slice ap ts.length cp) := N1.cell 3
  have HM2 := hid (HMP.out w1 P1)
  have HO1 := hid ho1
  have HG1 := hid hg1
  clear N1 P1 ho1 hg1
  go_wp2_with fail
  refine HM2.out.mono ?_
  rintro e w2 ⟨rfl, ho2, hg2⟩
  have OI := hid (HO1.out.kept hg2 (by
    cases hv : (Value.slice ai its.length ci).ownBlock with
    | none => exact .inl rfl
    | some g => exact .inr fun e => HAP.out g hv e.symm))
  have HO2 := hid ho2
  have HG2 := hid hg2
  have hsz1 := HG1.out.size
  have hsz2 := hg2.size
  rw [World.size_alloc] at hsz1
  clear ho2 hg2
  go_wp2
  go_ret
  refine ⟨rfl, ⟨by rw [marksI_len]; exact OI.out, by rw [marks_length]; exact HO2.out, HAP.out⟩, fun b hb h1 h2 => ?_, by omega, fun B' hi' hp' hB' => ?_⟩
  · exact ((HG2.out.block b (by omega) (fun e => h2 e.symm)).trans (HG1.out.block b (by simp; omega) (fun e => h1 e.symm))).trans (Below.heap_alloc w _ b hb)
  · have k1 := ((Below.refl B' w).alloc hB' (.cells #[.int .i64 wd, .int .i64 room, .slice ai its.length ci, .slice ap ts.length cp] 34)).grown HG1.out (by simp; omega) hi'
    exact k1.grown HG2.out (by omega) hp'
set_option maxRecDepth 100000 in
set_option maxHeartbeats 1000000 in
theorem heldStore_any (wd room : Int) (vi vp : Value) (ni np : Nat) (w : World) (hi : RdI w vi (marksI 1 ni)) (hp : Reads w vp (marks (1 + 2 * ni) np)) (hl : 2 * ni + np ≤ 4300000) :
    Calls Tryz.prog 65 #[.agg #[.int .i64 wd, .int .i64 room, vi, vp], .int .i64 1] w fun e w' => e = .returned (.int .i64 ((1 + 2 * ni + np : Nat) : Int)) ∧ Below w.heap.size w w' := by
  have hA := (Below.refl w.heap.size w).alloc (Nat.le_refl _) (.cells #[.int .i64 wd, .int .i64 room, vi, vp] 34)
  have HHI := hid (heldItemS_any vi 1 ni _ (hi.below hA) (by omega) (by omega))
  have HHP := hid fun W h => heldStringS_any vp (1 + 2 * ni) np W h (by omega) (by omega)
  have HN := hid (Blk.new w 34 #[.int .i64 wd, .int .i64 room, vi, vp])
  have HP := hid (hp.below hA)
  have HA := hid hA
  obtain ⟨ai, ci, rfl, _⟩ := hi
  obtain ⟨ap, cp, rfl, _⟩ := hp.form
  clear hp hA
  go_enter Tryz.func65, Tryz.ntmps65
  go_wp2_with fail
  refine HHI.out.mono ?_
  rintro e w1 ⟨rfl, hb1⟩
  have x3 : w1.cell? ⟨w.heap.size, 3, none⟩ = _ := (HN.out.below hb1).cell 3
  have HP1 := hid (HHP.out w1 (HP.out.below hb1))
  have HB1 := hid (HA.out.trans (hb1.mono (by simp)))
  have hnn : ¬ (((1 + 2 * ni : Nat) : Int) < 0) := by omega
  clear hb1
  go_wp2_with fail
  refine HP1.out.mono ?_
  rintro e w2 ⟨rfl, hb2⟩
  have HB2 := hid (HB1.out.trans (hb2.mono HB1.out.size))
  have hnn2 : ¬ (((1 + 2 * ni + np : Nat) : Int) < 0) := by omega
  clear hb2
  go_wp2
  go_ret
  exact ⟨rfl, HB2.out⟩
end Go.Proofs.YtlnkhbnbcmllaaaGreat
/- What laws.FnExactGet holds against each other. -/
namespace Go.Proofs.YtlnkhbnbcmllaaaGreat
open Go.RowKit
set_option maxRecDepth 100000 in
set_option maxHeartbeats 1000000 in
theorem toStore2_any (wd room : Int) (vi vp : Value) (its : Itms) (ts : List ByteArray) (w : World) (hi : RdI w vi its) (hp : Reads w vp ts) (hli : its.length ≤ 1048576) (hlp : ts.length ≤ 1048576) :
    Calls Tryz.prog 23 #[.agg #[.int .i64 wd, .int .i64 room, vi, vp]] w fun e w' => ∃ vi' vp', e = .returned (.agg #[.int .i64 wd, .int .i64 room, vi', vp']) ∧ OwnI w' w.heap.size vi' its ∧ w'.ownsRow w.heap.size 9 1 vp' ts.length (ts.map Value.string) ∧ (∀ g, vi'.ownBlock = some g → vp'.ownBlock ≠ some g) ∧ Below w.heap.size w w' := by
  have hN1 := ((Blk.new w 25 #[.int .i64 wd, .int .i64 room, vi, vp]).alloc (.cells #[.int .i64 0, .int .i64 0, .slice none 0 0, .slice none 0 0] 34)).alloc (.cells #[.int .i64 wd, .int .i64 room, .slice none 0 0, .slice none 0 0] 34)
  have hN2 := (Blk.new (w.alloc (.cells #[.int .i64 wd, .int .i64 room, vi, vp] 25)) 34 #[.int .i64 0, .int .i64 0, .slice none 0 0, .slice none 0 0]).alloc (.cells #[.int .i64 wd, .int .i64 room, .slice none 0 0, .slice none 0 0] 34)
  have hN3 := Blk.new ((w.alloc (.cells #[.int .i64 wd, .int .i64 room, vi, vp] 25)).alloc (.cells #[.int .i64 0, .int .i64 0, .slice none 0 0, .slice none 0 0] 34)) 34 #[.int .i64 wd, .int .i64 room, .slice none 0 0, .slice none 0 0]
  rw [World.size_alloc] at hN2
  rw [World.size_alloc, World.size_alloc] at hN3
  have hA := (((Below.refl w.heap.size w).alloc (Nat.le_refl _) (.cells #[.int .i64 wd, .int .i64 room, vi, vp] 25)).alloc (by simp) (.cells #[.int .i64 0, .int .i64 0, .slice none 0 0, .slice none 0 0] 34)).alloc (by simp; omega) (.cells #[.int .i64 wd, .int .i64 room, .slice none 0 0, .slice none 0 0] 34)
  have HI := hid (toItemS_any vi its _ (hi.below hA) hli)
  have HP := hid fun W h => toStrs_any vp ts W h hlp
  have HRP := hid hp
  obtain ⟨ai, ci, rfl, _⟩ := hi
  obtain ⟨ap, cp, rfl, _⟩ := hp.form
  have HN1 := hid hN1
  have HN2 := hid hN2
  have HN3 := hid hN3
  have HA := hid hA
  clear hp hA hN1 hN2 hN3
  go_enter Tryz.func23, Tryz.ntmps23
  go_wp2_with fail
  refine HI.out.mono ?_
  rintro e w1 ⟨v1, rfl, ho1, hb1⟩
  have N1 := HN1.out.below hb1
  have N2 := HN2.out.below hb1
  have N3 := HN3.out.below hb1
  have B1 := HA.out.trans (hb1.mono (by simp; omega))
  obtain ⟨g, rfl, hg, hG⟩ := ho1
  have hG0 := hG.lt
  rw [World.size_alloc, World.size_alloc, World.size_alloc] at hg
  have x2 : w1.cell? ⟨w.heap.size + 1 + 1, 2, none⟩ = some (.slice none 0 0) := N3.cell 2
  have x3 := N3.fz 2
  have M3 := N3.set 2 (.slice (some ⟨g, 0, none⟩) its.length its.length)
  have g1 := grownBy_setCellAt w1 (w.heap.size + 1 + 1) 2 (.slice (some ⟨g, 0, none⟩) its.length its.length)
  have M1 := N1.kept g1 (fun e => by simp at e; omega)
  have M2 := N2.kept g1 (fun e => by simp at e)
  have MG := hG.kept g1 (fun e => by simp at e; omega)
  have MB := B1.setCell (p := ⟨w.heap.size + 1 + 1, 2, none⟩) (by simp; omega) (.slice (some ⟨g, 0, none⟩) its.length its.length)
  have HP2 := hid (HP.out _ (HRP.out.below MB))
  have y3 : (w1.setCell ⟨w.heap.size + 1 + 1, 2, none⟩ (.slice (some ⟨g, 0, none⟩) its.length its.length)).cell? ⟨w.heap.size, 3, none⟩ = some (.slice ap ts.length cp) := M1.cell 3
  have hs1 := B1.size
  have hlt3 := N3.lt
  clear N1 N2 N3 B1 hb1 g1 hG
  go_wp2_with fail
  refine HP2.out.mono ?_
  rintro e w2 ⟨v2, rfl, ho2, hb2⟩
  obtain ⟨a2, c2, rfl, _⟩ := row_form ho2
  have K2 := M2.below hb2
  have K3 := M3.below hb2
  have KG := MG.below hb2
  have KB := MB.trans (hb2.mono MB.size)
  have hsz2 : w.heap.size + 1 + 1 < (w1.setCell ⟨w.heap.size + 1 + 1, 2, none⟩ (.slice (some ⟨g, 0, none⟩) its.length its.length)).heap.size := M3.lt
  have z2 : w2.cell? ⟨w.heap.size + 1 + 1, 3, none⟩ = some (.slice none 0 0) := K3.cell 3
  have z3 := K3.fz 3
  have L3 := K3.set 3 (.slice a2 ts.length c2)
  have g2 := grownBy_setCellAt w2 (w.heap.size + 1 + 1) 3 (.slice a2 ts.length c2)
  have L2 := K2.kept g2 (fun e => by simp at e)
  have LG := KG.kept g2 (fun e => by simp at e; omega)
  have LB := KB.setCell (p := ⟨w.heap.size + 1 + 1, 3, none⟩) (by simp; omega) (.slice a2 ts.length c2)
  have LO := row_kept ho2 g2 (by omega)
  have l0 : (w2.setCell ⟨w.heap.size + 1 + 1, 3, none⟩ (.slice a2 ts.length c2)).cell? ⟨w.heap.size + 1 + 1, 0, none⟩ = some (.int .i64 wd) := L3.cell 0
  have l1 : (w2.setCell ⟨w.heap.size + 1 + 1, 3, none⟩ (.slice a2 ts.length c2)).cell? ⟨w.heap.size + 1 + 1, 1, none⟩ = some (.int .i64 room) := L3.cell 1
  have l2 : (w2.setCell ⟨w.heap.size + 1 + 1, 3, none⟩ (.slice a2 ts.length c2)).cell? ⟨w.heap.size + 1 + 1, 2, none⟩ = some (.slice (some ⟨g, 0, none⟩) its.length its.length) := L3.cell 2
  have l3 : (w2.setCell ⟨w.heap.size + 1 + 1, 3, none⟩ (.slice a2 ts.length c2)).cell? ⟨w.heap.size + 1 + 1, 3, none⟩ = some (.slice a2 ts.length c2) := L3.cell 3
  have s := L2.store4 (.int .i64 wd) (.int .i64 room) (.slice (some ⟨g, 0, none⟩) its.length its.length) (.slice a2 ts.length c2)
  have s0 := s.a0; have s1 := s.a1; have s2 := s.a2; have s3 := s.a3
  have f0 := s.f0; have f1 := s.f1; have f2 := s.f2; have f3 := s.f3
  have Z := hid s.z
  have BB := hid ((((LB.setCell (p := ⟨w.heap.size + 1, 0, none⟩) (by simp) (.int .i64 wd)).setCell (p := ⟨w.heap.size + 1, 1, none⟩) (by simp) (.int .i64 room)).setCell (p := ⟨w.heap.size + 1, 2, none⟩) (by simp) (.slice (some ⟨g, 0, none⟩) its.length its.length)).setCell (p := ⟨w.heap.size + 1, 3, none⟩) (by simp) (.slice a2 ts.length c2))
  have hgw : g < w1.heap.size := hG0
  have HAP : Hid (∀ g', (Value.slice (some ⟨g, 0, none⟩) its.length its.length).ownBlock = some g' → (Value.slice a2 ts.length c2).ownBlock ≠ some g') := fun g' e e2 => by
    have e1 : g = g' := by simpa [Value.ownBlock] using e
    have := (ho2.lt g' e2).1
    simp at this
    omega
  have OO := hid (row_kept (row_kept (row_kept (row_kept LO (grownBy_setCellAt _ (w.heap.size + 1) 0 (.int .i64 wd)) (by omega)) (grownBy_setCellAt _ (w.heap.size + 1) 1 (.int .i64 room)) (by omega)) (grownBy_setCellAt _ (w.heap.size + 1) 2 (.slice (some ⟨g, 0, none⟩) its.length its.length)) (by omega)) (grownBy_setCellAt _ (w.heap.size + 1) 3 (.slice a2 ts.length c2)) (by omega))
  have GG := hid ((((LG.kept (grownBy_setCellAt _ (w.heap.size + 1) 0 (.int .i64 wd)) (fun e => by simp at e; omega)).kept (grownBy_setCellAt _ (w.heap.size + 1) 1 (.int .i64 room)) (fun e => by simp at e; omega)).kept (grownBy_setCellAt _ (w.heap.size + 1) 2 (.slice (some ⟨g, 0, none⟩) its.length its.length)) (fun e => by simp at e; omega)).kept (grownBy_setCellAt _ (w.heap.size + 1) 3 (.slice a2 ts.length c2)) (fun e => by simp at e; omega))
  clear s K2 K3 KG KB g2 L2 LG LB LO ho2 hb2 L3 M1 M2 M3 MG MB x2 x3 y3 HP2
  go_wp2
  refine bodyPost_ret (v := .agg #[.int .i64 wd, .int .i64 room, .slice (some ⟨g, 0, none⟩) its.length its.length, .slice a2 ts.length c2]) (by simp [results, Tryz.results23, go_sem, Z.out.cell]) rfl ⟨_, _, rfl, ⟨g, rfl, by omega, GG.out⟩, ownsRow_base OO.out (by omega), HAP.out, BB.out⟩

theorem OwnI.row {w : World} {B : Nat} {v : Value} {its : Itms} (h : OwnI w B v its) (hl : its.length ≤ 1048576) : w.ownsRow B 84 2 v its.length (cellsI its) := by
  obtain ⟨g, rfl, hg, hG⟩ := h
  exact ⟨cellsI_len its, .inr ⟨g, its.length, (cellsI its).toArray, rfl, hg, hG, Nat.le_refl _, by unfold maxLen; omega, by simp [cellsI_len], by show List.take (its.length * 2) (cellsI its).toArray.toList = _; rw [← cellsI_len, List.toList_toArray, List.take_length]⟩⟩
theorem row_same {w w' : World} {B n size : Nat} {e : TypeId} {v : Value} {xs : List Value} (h : w.ownsRow B e size v n xs) (hs : ∀ g, v.ownBlock = some g → w'.heap[g]? = w.heap[g]?) : w'.ownsRow B e size v n xs := by
  obtain ⟨h1, h2⟩ := h
  refine ⟨h1, ?_⟩
  rcases h2 with h2 | ⟨g, cap, cur, e1, hb, hg, r⟩
  · exact .inl h2
  · exact .inr ⟨g, cap, cur, e1, hb, (hs g (by rw [e1]; rfl)).trans hg, r⟩
theorem StoreOwn.same {w w' : World} {B : Nat} {vi vp : Value} {its : Itms} {ts : List ByteArray} (h : StoreOwn w B vi vp its ts) (h1 : ∀ g, vi.ownBlock = some g → w'.heap[g]? = w.heap[g]?) (h2 : ∀ g, vp.ownBlock = some g → w'.heap[g]? = w.heap[g]?) : StoreOwn w' B vi vp its ts := ⟨row_same h.items h1, row_same h.pins h2, h.apart⟩
theorem GetR.same {wd room : Int} {its : Itms} {ts : List ByteArray} {s : ByteArray} {now : Int} {x y : ByteArray} {w1 r1 w2 r2 : Int} {i1 i2 : Itms} {t1 t2 : List ByteArray} {b1 b2 : Bool} (h : GetR wd room its ts s now x w1 r1 i1 t1 b1) (k : GetR wd room its ts s now y w2 r2 i2 t2 b2) : x = y ∧ w1 = w2 ∧ r1 = r2 ∧ i1 = i2 ∧ t1 = t2 ∧ b1 = b2 := by
  rcases h with ⟨rfl, rfl, rfl, rfl, rfl, rfl, hn⟩ | ⟨rfl, rfl, rfl, rfl, ho, i, hi, hs, rfl, rfl⟩ <;> rcases k with ⟨rfl, rfl, rfl, rfl, rfl, rfl, kn⟩ | ⟨rfl, rfl, rfl, rfl, ko, j, hj, ks, rfl, rfl⟩
  · exact ⟨rfl, rfl, rfl, rfl, rfl, rfl⟩
  · exact absurd ko hn
  · exact absurd ho kn
  · have e : i = j := sums_inj (sums_asc ho.1.each) hi hj (by rw [hs, ks])
    subst e
    exact ⟨rfl, rfl, rfl, rfl, rfl, rfl⟩
theorem GetR.len {wd room : Int} {its : Itms} {ts : List ByteArray} {s : ByteArray} {now : Int} {x : ByteArray} {w1 r1 : Int} {i1 : Itms} {t1 : List ByteArray} {b1 : Bool} (h : GetR wd room its ts s now x w1 r1 i1 t1 b1) : i1.length ≤ its.length ∧ t1.length ≤ ts.length := by
  rcases h with ⟨_, _, _, rfl, rfl, _⟩ | ⟨_, _, _, rfl, _, i, _, _, _, rfl⟩
  · simp
  · simp
end Go.Proofs.YtlnkhbnbcmllaaaGreat
/- Peers in rows of their own; laws.markPeerS and laws.heldPeerS. -/
namespace Go.Proofs.YtlnkhbnbcmllaaaGreat
open Go.RowKit
/-- A world in which only the blocks told by T, and new ones, have turned. -/
structure Kept (w w' : World) (T : Nat → Prop) : Prop where
  os : w'.os = w.os
  tape : w'.tape = w.tape
  output : w'.output = w.output
  size : w.heap.size ≤ w'.heap.size
  block : ∀ k, k < w.heap.size → ¬ T k → w'.heap[k]? = w.heap[k]?
theorem Kept.refl (w : World) (T : Nat → Prop) : Kept w w T := ⟨rfl, rfl, rfl, Nat.le_refl _, fun _ _ _ => rfl⟩
theorem Kept.trans {a b c : World} {T : Nat → Prop} (h : Kept a b T) (k : Kept b c T) : Kept a c T :=
  ⟨k.os.trans h.os, k.tape.trans h.tape, k.output.trans h.output, Nat.le_trans h.size k.size, fun n hn ht => (k.block n (Nat.lt_of_lt_of_le hn h.size) ht).trans (h.block n hn ht)⟩
theorem Kept.of_grown {a b : World} {o : Option Nat} {T : Nat → Prop} (h : a.grownBy b o) (ho : ∀ g, o = some g → T g) : Kept a b T :=
  ⟨h.os, h.tape, h.output, h.size, fun k hk ht => h.block k hk (fun e => ht (ho k e.symm))⟩
theorem Kept.of_below {a b : World} {T : Nat → Prop} (h : Below a.heap.size a b) : Kept a b T := ⟨h.os, h.tape, h.output, h.size, fun k hk _ => h.block k hk⟩
theorem Kept.below {a b : World} {T : Nat → Prop} {B : Nat} (h : Kept a b T) (ht : ∀ g, T g → B ≤ g) (hB : B ≤ a.heap.size) : Below B a b :=
  ⟨h.os, h.tape, h.output, h.size, fun k hk => h.block k (Nat.lt_of_lt_of_le hk hB) (fun t => by have := ht k t; omega)⟩
theorem Kept.mono {a b : World} {T T' : Nat → Prop} (h : Kept a b T) (ht : ∀ g, T g → T' g) : Kept a b T' := ⟨h.os, h.tape, h.output, h.size, fun k hk hn => h.block k hk (fun t => hn (ht k t))⟩
theorem row_far {w w' : World} {B n size b : Nat} {e : TypeId} {v : Value} {xs : List Value} (h : w.ownsRow B e size v n xs) (hg : w.grownBy w' (some b)) (hn : v.ownBlock ≠ some b) : w'.ownsRow B e size v n xs := h.kept hg (.inr hn)
abbrev PV := List (Pr × Value)
def qp (qs : PV) (i : Nat) : Pr := (qs.getD i (pr0, .slice none 0 0)).1
def qv (qs : PV) (i : Nat) : Value := (qs.getD i (pr0, .slice none 0 0)).2
def cellsQ (qs : PV) : List Value := qs.flatMap fun q => [Value.int .i64 q.1.lies, .int .i64 q.1.wait, .int .i64 q.1.last, .string q.1.asked, q.2]
theorem cellsQ_len : ∀ qs : PV, (cellsQ qs).length = qs.length * 5
  | [] => rfl
  | q :: r => by
    have := cellsQ_len r
    simp only [cellsQ, List.flatMap_cons, List.length_append, List.length_cons, List.length_nil] at this ⊢
    omega
structure Q5 (l : List Value) (o : Nat) (p : Pr) (v : Value) : Prop where
  c0 : l[o]? = some (.int .i64 p.lies)
  c1 : l[o + 1]? = some (.int .i64 p.wait)
  c2 : l[o + 2]? = some (.int .i64 p.last)
  c3 : l[o + 3]? = some (.string p.asked)
  c4 : l[o + 4]? = some v
theorem cellsQ_at : ∀ (qs : PV) (i : Nat), i < qs.length → Q5 (cellsQ qs) (i * 5) (qp qs i) (qv qs i)
  | [], i, h => absurd h (by simp)
  | q :: r, 0, _ => by constructor <;> simp [cellsQ, qp, qv]
  | q :: r, i + 1, h => by
    have ih := cellsQ_at r i (by simpa using h)
    have e : (i + 1) * 5 = i * 5 + 1 + 1 + 1 + 1 + 1 := by omega
    have hc : cellsQ (q :: r) = .int .i64 q.1.lies :: .int .i64 q.1.wait :: .int .i64 q.1.last :: .string q.1.asked :: q.2 :: cellsQ r := rfl
    have hp : qp (q :: r) (i + 1) = qp r i := rfl
    have hv : qv (q :: r) (i + 1) = qv r i := rfl
    rw [e, hc, hp, hv]
    refine ⟨?_, ?_, ?_, ?_, ?_⟩
    · simpa using ih.c0
    · rw [show i * 5 + 1 + 1 + 1 + 1 + 1 + 1 = i * 5 + 1 + 1 + 1 + 1 + 1 + 1 from rfl]; simpa using ih.c1
    · rw [show i * 5 + 1 + 1 + 1 + 1 + 1 + 2 = i * 5 + 2 + 1 + 1 + 1 + 1 + 1 by omega]; simpa using ih.c2
    · rw [show i * 5 + 1 + 1 + 1 + 1 + 1 + 3 = i * 5 + 3 + 1 + 1 + 1 + 1 + 1 by omega]; simpa using ih.c3
    · rw [show i * 5 + 1 + 1 + 1 + 1 + 1 + 4 = i * 5 + 4 + 1 + 1 + 1 + 1 + 1 by omega]; simpa using ih.c4
theorem cellsQ_set4 (qs : PV) (i : Nat) (p : Pr) (h : i < qs.length) : ((((cellsQ qs).set (i * 5) (.int .i64 p.lies)).set (i * 5 + 1) (.int .i64 p.wait)).set (i * 5 + 2) (.int .i64 p.last)).set (i * 5 + 3) (.string p.asked) = cellsQ (qs.set i (p, qv qs i)) := by
  induction qs generalizing i with
  | nil => simp at h
  | cons q r ih =>
    cases i with
    | zero => simp [cellsQ, qv]
    | succ i =>
      have := ih i (by simpa using h)
      have hc : ∀ (q : Pr × Value) r, cellsQ (q :: r) = .int .i64 q.1.lies :: .int .i64 q.1.wait :: .int .i64 q.1.last :: .string q.1.asked :: q.2 :: cellsQ r := fun _ _ => rfl
      have hv : qv (q :: r) (i + 1) = qv r i := rfl
      have hset : ∀ x, (q :: r).set (i + 1) x = q :: r.set i x := fun _ => rfl
      rw [hc, hv, hset, hc, ← this]
      rw [show (i + 1) * 5 = i * 5 + 1 + 1 + 1 + 1 + 1 by omega, show i * 5 + 1 + 1 + 1 + 1 + 1 + 2 = i * 5 + 2 + 1 + 1 + 1 + 1 + 1 by omega, show i * 5 + 1 + 1 + 1 + 1 + 1 + 3 = i * 5 + 3 + 1 + 1 + 1 + 1 + 1 by omega]
      simp only [List.set_cons_succ]
/-- Peers in rows of their own. -/
structure PeersOwn (w : World) (B : Nat) (v : Value) (qs : PV) : Prop where
  row : w.ownsRow B 81 5 v qs.length (cellsQ qs)
  nots : ∀ i, i < qs.length → w.ownsRow B 9 1 (qv qs i) (qp qs i).nots.length ((qp qs i).nots.map Value.string)
  apart : ∀ i, i < qs.length → ∀ g, (qv qs i).ownBlock = some g → v.ownBlock ≠ some g
  apart2 : ∀ i j, i < qs.length → j < qs.length → i ≠ j → ∀ g, (qv qs i).ownBlock = some g → (qv qs j).ownBlock ≠ some g
theorem PeersOwn.none (w : World) (B : Nat) : PeersOwn w B (.slice .none 0 0) [] := ⟨World.ownsRow_nil _ _ _ _, fun i h => absurd h (by simp), fun i h => absurd h (by simp), fun i _ h => absurd h (by simp)⟩
/-- The blocks of peers. -/
def PBlk (v : Value) (qs : PV) (b : Nat) : Prop := v.ownBlock = some b ∨ ∃ i, i < qs.length ∧ (qv qs i).ownBlock = some b
theorem PeersOwn.lt {w : World} {B : Nat} {v : Value} {qs : PV} (h : PeersOwn w B v qs) : ∀ b, PBlk v qs b → B ≤ b ∧ b < w.heap.size := fun b hb => by
  rcases hb with hb | ⟨i, hi, hb⟩
  · exact h.row.lt b hb
  · exact (h.nots i hi).lt b hb
theorem PeersOwn.same {w w' : World} {B : Nat} {v : Value} {qs : PV} (h : PeersOwn w B v qs) (hs : ∀ b, PBlk v qs b → w'.heap[b]? = w.heap[b]?) : PeersOwn w' B v qs :=
  ⟨row_same h.row fun g e => hs g (.inl e), fun i hi => row_same (h.nots i hi) fun g e => hs g (.inr ⟨i, hi, e⟩), h.apart, h.apart2⟩
theorem PeersOwn.below {w w' : World} {B : Nat} {v : Value} {qs : PV} (h : PeersOwn w B v qs) (hb : Below w.heap.size w w') : PeersOwn w' B v qs := h.same fun b hp => hb.block b (h.lt b hp).2
theorem PeersOwn.kept {w w' : World} {B k : Nat} {v : Value} {qs : PV} (h : PeersOwn w B v qs) (hg : w.grownBy w' (some k)) (hk : k < B) : PeersOwn w' B v qs := h.same fun b hp => hg.block b (h.lt b hp).2 (fun e => by have := (h.lt b hp).1; have := Option.some.inj e; omega)
theorem PeersOwn.base {w : World} {B B' : Nat} {v : Value} {qs : PV} (h : PeersOwn w B v qs) (hb : B' ≤ B) : PeersOwn w B' v qs := ⟨ownsRow_base2 h.row hb, fun i hi => ownsRow_base2 (h.nots i hi) hb, h.apart, h.apart2⟩
theorem PeersOwn.rdp {w : World} {B : Nat} {v : Value} {qs : PV} (h : PeersOwn w B v qs) : RdP w v (qs.map Prod.fst) := by
  have hr := h.row
  have hp : ∀ i, i < qs.length → pat (qs.map Prod.fst) i = qp qs i := fun i hi => by simp [pat, qp, hi]
  rcases h.row with ⟨_, ⟨rfl, h0⟩ | ⟨g, cap, cur, rfl, hb, hg, _⟩⟩
  · have : qs = [] := List.eq_nil_of_length_eq_zero h0
    subst this
    exact ⟨_, 0, rfl, fun i hi => absurd hi (by simp)⟩
  · refine ⟨some ⟨g, 0, .none⟩, cap, by simp, fun i hi => ?_⟩
    have hi' : i < qs.length := by simpa using hi
    have hq := cellsQ_at qs i hi'
    rw [hp i hi']
    refine ⟨g, 0, qv qs i, rfl, (Array.getElem?_eq_some_iff.1 hg).1, ?_, ?_, ?_, ?_, ?_, Reads.of_row (h.nots i hi')⟩
    · rw [Nat.zero_add, hr.cellAt _ (by omega)]; exact hq.c0
    · rw [Nat.zero_add, hr.cellAt _ (by omega)]; exact hq.c1
    · rw [Nat.zero_add, hr.cellAt _ (by omega)]; exact hq.c2
    · rw [Nat.zero_add, hr.cellAt _ (by omega)]; exact hq.c3
    · rw [Nat.zero_add, hr.cellAt _ (by omega)]; exact hq.c4
/-- Marks: the k-th on. -/
def markP (k : Nat) (p : Pr) : Pr := ⟨k, ((k + 1 : Nat) : Int), ((k + 2 : Nat) : Int), markB (k + 3), marks (k + 4) p.nots.length⟩
def totP : Prs → Nat
  | [] => 0
  | p :: r => 4 + p.nots.length + totP r
def marksP : Nat → Prs → Prs
  | _, [] => []
  | k, p :: r => markP k p :: marksP (k + (4 + p.nots.length)) r
def totQ (qs : PV) : Nat := totP (qs.map Prod.fst)
def marksQ : Nat → PV → PV
  | _, [] => []
  | k, q :: r => (markP k q.1, q.2) :: marksQ (k + (4 + q.1.nots.length)) r
theorem marksQ_len : ∀ (qs : PV) (k : Nat), (marksQ k qs).length = qs.length
  | [], _ => rfl
  | _ :: r, k => by simp [marksQ, marksQ_len r]
theorem marksP_len : ∀ (ps : Prs) (k : Nat), (marksP k ps).length = ps.length
  | [], _ => rfl
  | _ :: r, k => by simp [marksP, marksP_len r]
theorem marksQ_fst : ∀ (qs : PV) (k : Nat), (marksQ k qs).map Prod.fst = marksP k (qs.map Prod.fst)
  | [], _ => rfl
  | _ :: r, k => by simp [marksQ, marksP, marksQ_fst r]
theorem totP_append : ∀ (a b : Prs), totP (a ++ b) = totP a + totP b
  | [], b => by simp [totP]
  | p :: r, b => by simp [totP, totP_append r b]; omega
theorem totQ_append (a b : PV) : totQ (a ++ b) = totQ a + totQ b := by simp [totQ, totP_append]
theorem marksQ_append : ∀ (a b : PV) (k : Nat), marksQ k (a ++ b) = marksQ k a ++ marksQ (k + totQ a) b
  | [], b, k => by simp [marksQ, totQ, totP]
  | q :: r, b, k => by simp [marksQ, marksQ_append r b, totQ, totP, Nat.add_assoc]
def mixQ (k m : Nat) (qs : PV) : PV := marksQ k (qs.take m) ++ qs.drop m
theorem mixQ_len (k m : Nat) (qs : PV) (h : m ≤ qs.length) : (mixQ k m qs).length = qs.length := by simp [mixQ, marksQ_len]; omega
theorem mixQ_zero (k : Nat) (qs : PV) : mixQ k 0 qs = qs := by simp [mixQ, marksQ]
theorem mixQ_all (k : Nat) (qs : PV) : mixQ k qs.length qs = marksQ k qs := by simp [mixQ]
theorem qs_at (qs : PV) (m : Nat) (h : m < qs.length) : qs[m] = (qp qs m, qv qs m) := by simp [qp, qv, h]
theorem totQ_take (qs : PV) (m : Nat) (h : m < qs.length) : totQ (qs.take (m + 1)) = totQ (qs.take m) + (4 + (qp qs m).nots.length) := by
  rw [List.take_succ_eq_append_getElem h, totQ_append, qs_at qs m h]
  simp [totQ, totP]
theorem totQ_take_le (qs : PV) (m : Nat) : totQ (qs.take m) ≤ totQ qs := by
  conv => rhs; rw [← List.take_append_drop m qs]
  rw [totQ_append]; omega
theorem totP_ge : ∀ ps : Prs, 4 * ps.length ≤ totP ps
  | [] => by simp
  | p :: r => by
    have := totP_ge r
    simp only [totP, List.length_cons]
    omega
theorem totQ_ge (qs : PV) : 4 * qs.length ≤ totQ qs := by
  have := totP_ge (qs.map Prod.fst)
  rw [List.length_map] at this
  exact this
theorem mixQ_at (k m : Nat) (qs : PV) (h : m < qs.length) : qp (mixQ k m qs) m = qp qs m ∧ qv (mixQ k m qs) m = qv qs m := by
  have hl : (marksQ k (qs.take m)).length = m := by rw [marksQ_len]; simp; omega
  have : (mixQ k m qs)[m]? = qs[m]? := by
    unfold mixQ
    rw [List.getElem?_append_right (by omega), hl, Nat.sub_self, List.getElem?_drop, Nat.add_zero]
  constructor <;> simp only [qp, qv, List.getD_eq_getElem?_getD, this]
theorem mixQ_succ (k m : Nat) (qs : PV) (h : m < qs.length) : (mixQ k m qs).set m (markP (k + totQ (qs.take m)) (qp qs m), qv qs m) = mixQ k (m + 1) qs := by
  have hl : (marksQ k (qs.take m)).length = m := by rw [marksQ_len]; simp; omega
  unfold mixQ
  rw [List.set_append_right _ _ (by omega), hl, Nat.sub_self, List.drop_eq_getElem_cons h, List.set_cons_zero, List.take_succ_eq_append_getElem h, marksQ_append, qs_at qs m h]
  simp [marksQ]
theorem qv_marks : ∀ (qs : PV) (k i : Nat), qv (marksQ k qs) i = qv qs i
  | [], _, _ => rfl
  | _ :: _, _, 0 => rfl
  | q :: r, k, i + 1 => qv_marks r (k + (4 + q.1.nots.length)) i
theorem qp_set (qs : PV) (m i : Nat) (q : Pr × Value) (h : m < qs.length) : qp (qs.set m q) i = if i = m then q.1 else qp qs i := by
  unfold qp
  rw [List.getD_eq_getElem?_getD, List.getElem?_set]
  by_cases e : m = i
  · subst e; simp [h]
  · rw [if_neg e, if_neg (fun h => e h.symm), ← List.getD_eq_getElem?_getD]
theorem qv_set (qs : PV) (m i : Nat) (p : Pr) (h : m < qs.length) : qv (qs.set m (p, qv qs m)) i = qv qs i := by
  unfold qv
  rw [List.getD_eq_getElem?_getD, List.getElem?_set]
  by_cases e : m = i
  · subst e; simp [h]
  · rw [if_neg e, ← List.getD_eq_getElem?_getD]
set_option maxRecDepth 100000 in
set_option maxHeartbeats 2000000 in
theorem markPeerS_any (v : Value) (k B : Nat) (qs : PV) (w : World) (hown : PeersOwn w B v qs) (h1 : 1 ≤ k) (h2 : k + totQ qs ≤ 4399990) :
    Calls Tryz.prog 32 #[v, .int .i64 k] w fun e w' => e = .returned (.int .i64 ((k + totQ qs : Nat) : Int)) ∧ PeersOwn w' B v (marksQ k qs) ∧ Kept w w' (PBlk v qs) := by
  obtain ⟨a, cap, rfl⟩ := row_any hown.row
  have hform : 0 < qs.length → ∃ g, a = some ⟨g, 0, none⟩ := fun h => by
    rcases hown.row with ⟨_, ⟨e, h0⟩ | ⟨g, cap', cur, e, _⟩⟩
    · omega
    · cases e; exact ⟨g, rfl⟩
  have HW := hid hown
  clear hown
  go_enter Tryz.func32, Tryz.ntmps32
  go_wp2
  go_loopw [1, 5] (fun x i wr => ∃ m : Nat, m ≤ qs.length ∧ i = .int .i64 m ∧ x = .int .i64 ((k + totQ (qs.take m) : Nat) : Int) ∧ PeersOwn wr B (.slice a qs.length cap) (mixQ k m qs) ∧ Kept w wr (PBlk (.slice a qs.length cap) qs)) (fun _ i _ => qs.length - (intOf i).toNat)
  case atStart => exact ⟨0, Nat.zero_le _, rfl, by simp [totQ, totP], by rw [mixQ_zero]; exact HW.out, Kept.refl _ _⟩
  case round =>
    obtain ⟨m, hm, rfl, rfl, hr, hb⟩ := hrel
    by_cases hlt : m < qs.length
    · obtain ⟨g, rfl⟩ := hform (by omega)
      have hlm := mixQ_len k m qs hm
      have htk := totQ_take qs m hlt
      have htl := totQ_take_le qs (m + 1)
      obtain ⟨hqp, hqv⟩ := mixQ_at k m qs hlt
      have hC := cellsQ_at (mixQ k m qs) m (by omega)
      rw [hqp, hqv] at hC
      obtain ⟨j, hj⟩ : ∃ j, j = k + totQ (qs.take m) := ⟨_, rfl⟩
      have HX := hid (mixQ_succ k m qs hlt)
      have HS4 := hid (cellsQ_set4 (mixQ k m qs) m (markP (k + totQ (qs.take m)) (qp qs m)) (by omega))
      rw [← hj] at HX HS4 ⊢
      have hjb : j + 4 + (qp qs m).nots.length ≤ 4399990 := by omega
      have hql : qs.length ≤ 1100000 := by have := totQ_ge qs; omega
      have hN := hr.nots m (by omega)
      rw [hqp, hqv] at hN
      have hap := hr.apart m (by omega)
      rw [hqv] at hap
      have HAP := hid hap
      have hr0 := hr.row
      rw [hlm] at hr0
      have HM := hid fun W => markText_any (j + 3) W (by omega) (by omega)
      have HMS := hid fun W (hw : W.ownsRow B 9 1 (qv qs m) (qp qs m).nots.length ((qp qs m).nots.map Value.string)) => markStringS_grown (qv qs m) (j + 4) B (qp qs m).nots W hw (by omega) (by omega)
      have HJ := hid hj
      have HTK := hid htk
      have HR := hid hr
      have HB := hid hb
      have HLM := hid hlm
      have HQV : Hid (qv (mixQ k m qs) m = qv qs m) := hqv
      obtain ⟨j1, hj1⟩ : ∃ j1, j1 = j + 1 := ⟨_, rfl⟩
      obtain ⟨j2, hj2⟩ : ∃ j2, j2 = j + 2 := ⟨_, rfl⟩
      obtain ⟨j3, hj3⟩ : ∃ j3, j3 = j + 3 := ⟨_, rfl⟩
      obtain ⟨j4, hj4⟩ : ∃ j4, j4 = j + 4 := ⟨_, rfl⟩
      have hw1 : IntKind.i64.wrap ((j : Int) + 1) = (j1 : Int) := by rw [IntKind.wrap_i64]; omega
      have hw2 : IntKind.i64.wrap ((j1 : Int) + 1) = (j2 : Int) := by rw [IntKind.wrap_i64]; omega
      have hw3 : IntKind.i64.wrap ((j2 : Int) + 1) = (j3 : Int) := by rw [IntKind.wrap_i64]; omega
      have hw4 : IntKind.i64.wrap ((j3 : Int) + 1) = (j4 : Int) := by rw [IntKind.wrap_i64]; omega
      have hmk : markP j (qp qs m) = ⟨(j : Int), (j1 : Int), (j2 : Int), markB j3, marks j4 (qp qs m).nots.length⟩ := by rw [hj1, hj2, hj3, hj4]; rfl
      rw [hmk] at HX HS4
      rw [← hj3] at HM
      rw [← hj4] at HMS
      have HJ4 := hid hj4
      clear hj hj1 hj2 hj3 hj4 htk htl hr hb hlm hqp hqv hap h1 h2 hmk
      generalize hcs : cellsQ (mixQ k m qs) = cs at *
      clear hcs
      have hcl : qs.length * 5 = cs.length := by have := hr0.1; omega
      generalize markB j3 = q at *
      obtain ⟨a4, c4, hvn⟩ : ∃ a4 c4, qv qs m = .slice a4 (qp qs m).nots.length c4 := by obtain ⟨x, y, e, _⟩ := row_form hN; exact ⟨x, y, e⟩
      have HVN := hid hvn
      rw [hvn] at hC
      generalize (qp qs m).nots = nt at *
      generalize hlies : (qp qs m).lies = zl at *
      generalize hwait : (qp qs m).wait = zw at *
      generalize hlast : (qp qs m).last = zt at *
      generalize hask : (qp qs m).asked = za at *
      clear hlies hwait hlast hask hvn
      obtain ⟨C0, C1, C2, C3, C4⟩ := hC
      have hz : m * 5 + 4 < qs.length * 5 := by omega
      have e0 := (hr0.cellAt (m * 5) (by omega)).trans C0
      have f0 := hr0.frozenAt (m * 5)
      have r1 := hr0.stored (m * 5) (.int .i64 (j : Int))
      have e1 := (r1.1.cellAt (m * 5 + 1) (by omega)).trans ((List.getElem?_set_ne (by omega)).trans C1)
      have f1 := r1.1.frozenAt (m * 5 + 1)
      have r2 := r1.1.stored (m * 5 + 1) (.int .i64 (j1 : Int))
      have e2 := (r2.1.cellAt (m * 5 + 2) (by omega)).trans ((List.getElem?_set_ne (by omega)).trans ((List.getElem?_set_ne (by omega)).trans C2))
      have f2 := r2.1.frozenAt (m * 5 + 2)
      have r3 := r2.1.stored (m * 5 + 2) (.int .i64 (j2 : Int))
      have e3 := (r3.1.cellAt (m * 5 + 3) (by omega)).trans ((List.getElem?_set_ne (by omega)).trans ((List.getElem?_set_ne (by omega)).trans ((List.getElem?_set_ne (by omega)).trans C3)))
      have e4 := (r3.1.cellAt (m * 5 + 4) (by omega)).trans ((List.getElem?_set_ne (by omega)).trans ((List.getElem?_set_ne (by omega)).trans ((List.getElem?_set_ne (by omega)).trans C4)))
      have hG3 := grown_same (grown_same r1.2 r2.2) r3.2
      have HG3 := hid hG3
      have HR3 := hid r3.1
      have HE3 := hid e3
      have HE4 := hid e4
      clear r1 r2 r3 hr0 C0 C1 C2 C3 C4 e3 e4 hG3
      go_wp2_with fail
      generalize hW3 : (((wr.setCell ⟨g, m * 5, none⟩ (.int .i64 (j : Int))).setCell ⟨g, m * 5 + 1, none⟩ (.int .i64 (j1 : Int))).setCell ⟨g, m * 5 + 2, none⟩ (.int .i64 (j2 : Int))) = W3 at *
      clear hW3 e0 e1 e2 f0 f1 f2
      refine (HM.out _).mono ?_
      rintro e w4 ⟨rfl, hb4⟩
      have r4 := HR3.out.kept (grown_of_below hb4) (.inr (by simp [Value.ownBlock]))
      have x3 := (hb4.cell (p := ⟨g, m * 5 + 3, none⟩) (HR3.out.lt g rfl).2).trans HE3.out
      have x4 := (hb4.cell (p := ⟨g, m * 5 + 4, none⟩) (HR3.out.lt g rfl).2).trans HE4.out
      have f3 := r4.frozenAt (m * 5 + 3)
      have r5 := r4.stored (m * 5 + 3) (.string q)
      have y4 : (w4.setCell ⟨g, m * 5 + 3, none⟩ (.string q)).cell? ⟨g, m * 5 + 4, none⟩ = some (.slice a4 nt.length c4) := by
        rw [r5.1.cellAt (m * 5 + 4) (by omega), List.getElem?_set_ne (by omega), ← r4.cellAt (m * 5 + 4) (by omega)]; exact x4
      have hG5 : wr.grownBy (w4.setCell ⟨g, m * 5 + 3, none⟩ (.string q)) (some g) := grown_same (grown_same HG3.out (grown_below' hb4)) r5.2
      have hgn : (qv qs m).ownBlock ≠ some g := fun e => HAP.out g e rfl
      have HMS5 := hid (HMS.out _ (row_far hN hG5 hgn))
      rw [HVN.out] at HMS5
      have HR5 := hid r5.1
      have HG5 := hid hG5
      clear r4 r5 hG5 hb4 x4 hN HMS
      go_wp2_with fail
      refine HMS5.out.mono ?_
      rintro e w6 ⟨rfl, ho6, hg6⟩
      have hn6 : (Value.slice (some ⟨g, 0, none⟩) qs.length cap).ownBlock ≠ (Value.slice a4 nt.length c4).ownBlock := fun e => by
        rw [← HVN.out] at e
        exact HAP.out g e.symm rfl
      have r6 := HR5.out.kept hg6 (.inr hn6)
      rw [HS4.out] at r6
      have HR6 := hid r6
      have HO6 := hid ho6
      have HG6 := hid hg6
      clear r6 ho6 hg6 hn6 x3 f3 y4 hgn
      go_wp2
      have hTq : ∀ b, (Value.slice (some ⟨g, 0, none⟩) qs.length cap).ownBlock = some b → PBlk (Value.slice (some ⟨g, 0, none⟩) qs.length cap) qs b := fun b e => .inl e
      have hTm : ∀ b, (Value.slice a4 nt.length c4).ownBlock = some b → PBlk (Value.slice (some ⟨g, 0, none⟩) qs.length cap) qs b := fun b e => .inr ⟨m, hlt, by rw [HVN.out]; exact e⟩
      refine ⟨⟨m + 1, by omega, by go_num, ?_, ?_, (HB.out.trans (Kept.of_grown HG5.out hTq)).trans (Kept.of_grown HG6.out hTm)⟩, by simp [intOf]; omega⟩
      · rw [HTK.out, HJ4.out, HJ.out]; congr 1; omega
      · have hs := HX.out
        rw [← hs]
        have hlx : ((mixQ k m qs).set m (⟨(j : Int), (j1 : Int), (j2 : Int), q, marks j4 nt.length⟩, qv qs m)).length = qs.length := by rw [List.length_set, HLM.out]
        have hqvs : ∀ i, qv ((mixQ k m qs).set m (⟨(j : Int), (j1 : Int), (j2 : Int), q, marks j4 nt.length⟩, qv qs m)) i = qv (mixQ k m qs) i := fun i => by
          have := qv_set (mixQ k m qs) m i ⟨(j : Int), (j1 : Int), (j2 : Int), q, marks j4 nt.length⟩ (by rw [HLM.out]; exact hlt)
          rw [HQV.out] at this
          exact this
        refine ⟨?_, fun i hi => ?_, fun i hi => ?_, fun i i' hi hi' => ?_⟩
        · rw [hlx]
          have := HR6.out
          rw [HQV.out] at this
          exact this
        · rw [hlx] at hi
          rw [hqvs, qp_set _ _ _ _ (by rw [HLM.out]; exact hlt)]
          by_cases he : i = m
          · subst he
            rw [if_pos rfl, HQV.out, HVN.out]
            dsimp only
            rw [marks_length]
            exact HO6.out
          · rw [if_neg he]
            have h0 := HR.out.nots i (by rw [HLM.out]; exact hi)
            have hA1 := HR.out.apart i (by rw [HLM.out]; exact hi)
            have hA2 := HR.out.apart2 i m (by rw [HLM.out]; exact hi) (by rw [HLM.out]; exact hlt) he
            have h5 := row_far h0 HG5.out (fun e => hA1 g e rfl)
            refine h5.kept HG6.out ?_
            cases hv : (qv (mixQ k m qs) i).ownBlock with
            | none => exact .inl rfl
            | some b => exact .inr fun e => hA2 b hv (by rw [HQV.out, HVN.out]; exact e.symm)
        · rw [hlx] at hi
          rw [hqvs]
          exact HR.out.apart i (by rw [HLM.out]; exact hi)
        · rw [hlx] at hi hi'
          rw [hqvs, hqvs]
          exact HR.out.apart2 i i' (by rw [HLM.out]; exact hi) (by rw [HLM.out]; exact hi')
    · obtain rfl : m = qs.length := by omega
      rw [mixQ_all] at hr
      rw [List.take_length]
      have HR := hid hr
      have HB := hid hb
      clear hr hb
      go_wp2
      go_ret
      exact ⟨rfl, HR.out, HB.out⟩
end Go.Proofs.YtlnkhbnbcmllaaaGreat
/- Fetches in rows of their own; blocks of eight cells. -/
namespace Go.Proofs.YtlnkhbnbcmllaaaGreat
open Go.RowKit
/-- A fetch in rows of its own. -/
structure FetchOwn (w : World) (B : Nat) (vi vp vq : Value) (its : Itms) (ts : List ByteArray) (qs : PV) : Prop where
  store : StoreOwn w B vi vp its ts
  peers : PeersOwn w B vq qs
  apartI : ∀ g, vi.ownBlock = some g → ¬ PBlk vq qs g
  apartP : ∀ g, vp.ownBlock = some g → ¬ PBlk vq qs g
theorem FetchOwn.none (w : World) (B : Nat) : FetchOwn w B (.slice .none 0 0) (.slice .none 0 0) (.slice .none 0 0) [] [] [] :=
  ⟨StoreOwn.none w B, PeersOwn.none w B, fun g e => by simp [Value.ownBlock] at e, fun g e => by simp [Value.ownBlock] at e⟩
theorem FetchOwn.below {w w' : World} {B : Nat} {vi vp vq : Value} {its : Itms} {ts : List ByteArray} {qs : PV} (h : FetchOwn w B vi vp vq its ts qs) (hb : Below w.heap.size w w') : FetchOwn w' B vi vp vq its ts qs := ⟨h.store.below hb, h.peers.below hb, h.apartI, h.apartP⟩
theorem FetchOwn.base {w : World} {B B' : Nat} {vi vp vq : Value} {its : Itms} {ts : List ByteArray} {qs : PV} (h : FetchOwn w B vi vp vq its ts qs) (hb : B' ≤ B) : FetchOwn w B' vi vp vq its ts qs := ⟨h.store.base hb, h.peers.base hb, h.apartI, h.apartP⟩
theorem FetchOwn.kept {w w' : World} {B k : Nat} {vi vp vq : Value} {its : Itms} {ts : List ByteArray} {qs : PV} (h : FetchOwn w B vi vp vq its ts qs) (hg : w.grownBy w' (some k)) (hk : k < B) : FetchOwn w' B vi vp vq its ts qs := ⟨h.store.kept hg hk, h.peers.kept hg hk, h.apartI, h.apartP⟩
/-- The blocks of a fetch. -/
def FBlk (vi vp vq : Value) (qs : PV) (b : Nat) : Prop := vi.ownBlock = some b ∨ vp.ownBlock = some b ∨ PBlk vq qs b
theorem FetchOwn.lt {w : World} {B : Nat} {vi vp vq : Value} {its : Itms} {ts : List ByteArray} {qs : PV} (h : FetchOwn w B vi vp vq its ts qs) (b : Nat) (hb : FBlk vi vp vq qs b) : B ≤ b ∧ b < w.heap.size := by
  rcases hb with hb | hb | hb
  · exact h.store.items.lt b hb
  · exact h.store.pins.lt b hb
  · exact h.peers.lt b hb
theorem FetchOwn.same {w w' : World} {B : Nat} {vi vp vq : Value} {its : Itms} {ts : List ByteArray} {qs : PV} (h : FetchOwn w B vi vp vq its ts qs) (hs : ∀ b, FBlk vi vp vq qs b → w'.heap[b]? = w.heap[b]?) : FetchOwn w' B vi vp vq its ts qs :=
  ⟨h.store.same (fun g e => hs g (.inl e)) (fun g e => hs g (.inr (.inl e))), h.peers.same fun g e => hs g (.inr (.inr e)), h.apartI, h.apartP⟩
/-- A block of eight cells, all of them stored anew. -/
structure Store8 (u : World) (b : Nat) (T : TypeId) (c0 c1 c2 c3 c4 c5 c6 c7 d0 d1 d2 d3 d4 d5 d6 d7 : Value) : Prop where
  a0 : u.cell? ⟨b, 0, none⟩ = some c0
  f0 : u.frozen? ⟨b, 0, none⟩ = false
  a1 : (u.setCell ⟨b, 0, none⟩ d0).cell? ⟨b, 1, none⟩ = some c1
  f1 : (u.setCell ⟨b, 0, none⟩ d0).frozen? ⟨b, 1, none⟩ = false
  a2 : ((u.setCell ⟨b, 0, none⟩ d0).setCell ⟨b, 1, none⟩ d1).cell? ⟨b, 2, none⟩ = some c2
  f2 : ((u.setCell ⟨b, 0, none⟩ d0).setCell ⟨b, 1, none⟩ d1).frozen? ⟨b, 2, none⟩ = false
  a3 : (((u.setCell ⟨b, 0, none⟩ d0).setCell ⟨b, 1, none⟩ d1).setCell ⟨b, 2, none⟩ d2).cell? ⟨b, 3, none⟩ = some c3
  f3 : (((u.setCell ⟨b, 0, none⟩ d0).setCell ⟨b, 1, none⟩ d1).setCell ⟨b, 2, none⟩ d2).frozen? ⟨b, 3, none⟩ = false
  a4 : ((((u.setCell ⟨b, 0, none⟩ d0).setCell ⟨b, 1, none⟩ d1).setCell ⟨b, 2, none⟩ d2).setCell ⟨b, 3, none⟩ d3).cell? ⟨b, 4, none⟩ = some c4
  f4 : ((((u.setCell ⟨b, 0, none⟩ d0).setCell ⟨b, 1, none⟩ d1).setCell ⟨b, 2, none⟩ d2).setCell ⟨b, 3, none⟩ d3).frozen? ⟨b, 4, none⟩ = false
  a5 : (((((u.setCell ⟨b, 0, none⟩ d0).setCell ⟨b, 1, none⟩ d1).setCell ⟨b, 2, none⟩ d2).setCell ⟨b, 3, none⟩ d3).setCell ⟨b, 4, none⟩ d4).cell? ⟨b, 5, none⟩ = some c5
  f5 : (((((u.setCell ⟨b, 0, none⟩ d0).setCell ⟨b, 1, none⟩ d1).setCell ⟨b, 2, none⟩ d2).setCell ⟨b, 3, none⟩ d3).setCell ⟨b, 4, none⟩ d4).frozen? ⟨b, 5, none⟩ = false
  a6 : ((((((u.setCell ⟨b, 0, none⟩ d0).setCell ⟨b, 1, none⟩ d1).setCell ⟨b, 2, none⟩ d2).setCell ⟨b, 3, none⟩ d3).setCell ⟨b, 4, none⟩ d4).setCell ⟨b, 5, none⟩ d5).cell? ⟨b, 6, none⟩ = some c6
  f6 : ((((((u.setCell ⟨b, 0, none⟩ d0).setCell ⟨b, 1, none⟩ d1).setCell ⟨b, 2, none⟩ d2).setCell ⟨b, 3, none⟩ d3).setCell ⟨b, 4, none⟩ d4).setCell ⟨b, 5, none⟩ d5).frozen? ⟨b, 6, none⟩ = false
  a7 : (((((((u.setCell ⟨b, 0, none⟩ d0).setCell ⟨b, 1, none⟩ d1).setCell ⟨b, 2, none⟩ d2).setCell ⟨b, 3, none⟩ d3).setCell ⟨b, 4, none⟩ d4).setCell ⟨b, 5, none⟩ d5).setCell ⟨b, 6, none⟩ d6).cell? ⟨b, 7, none⟩ = some c7
  f7 : (((((((u.setCell ⟨b, 0, none⟩ d0).setCell ⟨b, 1, none⟩ d1).setCell ⟨b, 2, none⟩ d2).setCell ⟨b, 3, none⟩ d3).setCell ⟨b, 4, none⟩ d4).setCell ⟨b, 5, none⟩ d5).setCell ⟨b, 6, none⟩ d6).frozen? ⟨b, 7, none⟩ = false
/-- The world behind. -/
def set8 (u : World) (b : Nat) (d0 d1 d2 d3 d4 d5 d6 d7 : Value) : World := (((((((u.setCell ⟨b, 0, none⟩ d0).setCell ⟨b, 1, none⟩ d1).setCell ⟨b, 2, none⟩ d2).setCell ⟨b, 3, none⟩ d3).setCell ⟨b, 4, none⟩ d4).setCell ⟨b, 5, none⟩ d5).setCell ⟨b, 6, none⟩ d6).setCell ⟨b, 7, none⟩ d7
theorem set8_def (u : World) (b : Nat) (d0 d1 d2 d3 d4 d5 d6 d7 : Value) : (((((((u.setCell ⟨b, 0, none⟩ d0).setCell ⟨b, 1, none⟩ d1).setCell ⟨b, 2, none⟩ d2).setCell ⟨b, 3, none⟩ d3).setCell ⟨b, 4, none⟩ d4).setCell ⟨b, 5, none⟩ d5).setCell ⟨b, 6, none⟩ d6).setCell ⟨b, 7, none⟩ d7 = set8 u b d0 d1 d2 d3 d4 d5 d6 d7 := rfl
theorem Blk.store8 {u : World} {b : Nat} {T : TypeId} {c0 c1 c2 c3 c4 c5 c6 c7 : Value} (h : Blk u b T #[c0, c1, c2, c3, c4, c5, c6, c7]) (d0 d1 d2 d3 d4 d5 d6 d7 : Value) : Store8 u b T c0 c1 c2 c3 c4 c5 c6 c7 d0 d1 d2 d3 d4 d5 d6 d7 := by
  have h1 : Blk (u.setCell ⟨b, 0, none⟩ d0) b T #[d0, c1, c2, c3, c4, c5, c6, c7] := h.set 0 d0
  have h2 : Blk ((u.setCell ⟨b, 0, none⟩ d0).setCell ⟨b, 1, none⟩ d1) b T #[d0, d1, c2, c3, c4, c5, c6, c7] := h1.set 1 d1
  have h3 : Blk (((u.setCell ⟨b, 0, none⟩ d0).setCell ⟨b, 1, none⟩ d1).setCell ⟨b, 2, none⟩ d2) b T #[d0, d1, d2, c3, c4, c5, c6, c7] := h2.set 2 d2
  have h4 : Blk ((((u.setCell ⟨b, 0, none⟩ d0).setCell ⟨b, 1, none⟩ d1).setCell ⟨b, 2, none⟩ d2).setCell ⟨b, 3, none⟩ d3) b T #[d0, d1, d2, d3, c4, c5, c6, c7] := h3.set 3 d3
  have h5 : Blk (((((u.setCell ⟨b, 0, none⟩ d0).setCell ⟨b, 1, none⟩ d1).setCell ⟨b, 2, none⟩ d2).setCell ⟨b, 3, none⟩ d3).setCell ⟨b, 4, none⟩ d4) b T #[d0, d1, d2, d3, d4, c5, c6, c7] := h4.set 4 d4
  have h6 : Blk ((((((u.setCell ⟨b, 0, none⟩ d0).setCell ⟨b, 1, none⟩ d1).setCell ⟨b, 2, none⟩ d2).setCell ⟨b, 3, none⟩ d3).setCell ⟨b, 4, none⟩ d4).setCell ⟨b, 5, none⟩ d5) b T #[d0, d1, d2, d3, d4, d5, c6, c7] := h5.set 5 d5
  have h7 : Blk (((((((u.setCell ⟨b, 0, none⟩ d0).setCell ⟨b, 1, none⟩ d1).setCell ⟨b, 2, none⟩ d2).setCell ⟨b, 3, none⟩ d3).setCell ⟨b, 4, none⟩ d4).setCell ⟨b, 5, none⟩ d5).setCell ⟨b, 6, none⟩ d6) b T #[d0, d1, d2, d3, d4, d5, d6, c7] := h6.set 6 d6
  exact ⟨h.cell 0, h.fz 0, h1.cell 1, h1.fz 1, h2.cell 2, h2.fz 2, h3.cell 3, h3.fz 3, h4.cell 4, h4.fz 4, h5.cell 5, h5.fz 5, h6.cell 6, h6.fz 6, h7.cell 7, h7.fz 7⟩
theorem Blk.set8 {u : World} {b : Nat} {T : TypeId} {c0 c1 c2 c3 c4 c5 c6 c7 : Value} (h : Blk u b T #[c0, c1, c2, c3, c4, c5, c6, c7]) (d0 d1 d2 d3 d4 d5 d6 d7 : Value) : Blk (set8 u b d0 d1 d2 d3 d4 d5 d6 d7) b T #[d0, d1, d2, d3, d4, d5, d6, d7] := by
  have h1 : Blk (u.setCell ⟨b, 0, none⟩ d0) b T #[d0, c1, c2, c3, c4, c5, c6, c7] := h.set 0 d0
  have h2 : Blk ((u.setCell ⟨b, 0, none⟩ d0).setCell ⟨b, 1, none⟩ d1) b T #[d0, d1, c2, c3, c4, c5, c6, c7] := h1.set 1 d1
  have h3 : Blk (((u.setCell ⟨b, 0, none⟩ d0).setCell ⟨b, 1, none⟩ d1).setCell ⟨b, 2, none⟩ d2) b T #[d0, d1, d2, c3, c4, c5, c6, c7] := h2.set 2 d2
  have h4 : Blk ((((u.setCell ⟨b, 0, none⟩ d0).setCell ⟨b, 1, none⟩ d1).setCell ⟨b, 2, none⟩ d2).setCell ⟨b, 3, none⟩ d3) b T #[d0, d1, d2, d3, c4, c5, c6, c7] := h3.set 3 d3
  have h5 : Blk (((((u.setCell ⟨b, 0, none⟩ d0).setCell ⟨b, 1, none⟩ d1).setCell ⟨b, 2, none⟩ d2).setCell ⟨b, 3, none⟩ d3).setCell ⟨b, 4, none⟩ d4) b T #[d0, d1, d2, d3, d4, c5, c6, c7] := h4.set 4 d4
  have h6 : Blk ((((((u.setCell ⟨b, 0, none⟩ d0).setCell ⟨b, 1, none⟩ d1).setCell ⟨b, 2, none⟩ d2).setCell ⟨b, 3, none⟩ d3).setCell ⟨b, 4, none⟩ d4).setCell ⟨b, 5, none⟩ d5) b T #[d0, d1, d2, d3, d4, d5, c6, c7] := h5.set 5 d5
  have h7 : Blk (((((((u.setCell ⟨b, 0, none⟩ d0).setCell ⟨b, 1, none⟩ d1).setCell ⟨b, 2, none⟩ d2).setCell ⟨b, 3, none⟩ d3).setCell ⟨b, 4, none⟩ d4).setCell ⟨b, 5, none⟩ d5).setCell ⟨b, 6, none⟩ d6) b T #[d0, d1, d2, d3, d4, d5, d6, c7] := h6.set 6 d6
  exact h7.set 7 d7
theorem grown_set8 (u : World) (b : Nat) (d0 d1 d2 d3 d4 d5 d6 d7 : Value) : u.grownBy (set8 u b d0 d1 d2 d3 d4 d5 d6 d7) (some b) :=
  grown_same (grown_same (grown_same (grown_same (grown_same (grown_same (grown_same (grownBy_setCellAt u b 0 d0) (grownBy_setCellAt _ b 1 d1)) (grownBy_setCellAt _ b 2 d2)) (grownBy_setCellAt _ b 3 d3)) (grownBy_setCellAt _ b 4 d4)) (grownBy_setCellAt _ b 5 d5)) (grownBy_setCellAt _ b 6 d6)) (grownBy_setCellAt _ b 7 d7)
theorem below_set8 {B b : Nat} {w u : World} (h : Below B w u) (hb : B ≤ b) (hs : B ≤ w.heap.size) (d0 d1 d2 d3 d4 d5 d6 d7 : Value) : Below B w (set8 u b d0 d1 d2 d3 d4 d5 d6 d7) :=
  h.grown (grown_set8 u b d0 d1 d2 d3 d4 d5 d6 d7) (Nat.le_trans hs h.size) (fun g e => by cases e; exact hb)
/-- What an append into a row that lies in a field leaves. -/
theorem field_stored {W w6 : World} {n₀ tb k m sz c : Nat} {E : TypeId} {v v' : Value} {xs ys : List Value} {tmp : Obj} {T : TypeId} {cs : Array Value} (hB : Blk W tb T cs) (hrow : W.ownsRow n₀ E sz v k xs) (htb : tb < n₀) (hown' : w6.ownsRow n₀ E sz v' m ys) (hgrow : (W.alloc tmp).grownBy w6 v.ownBlock) :
    Blk w6 tb T cs ∧ (w6.setCell ⟨tb, c, none⟩ v').ownsRow n₀ E sz v' m ys ∧ ∀ A : World, A.grownBy W (some tb) → A.heap.size = n₀ → A.grownBy (w6.setCell ⟨tb, c, none⟩ v') (some tb) := by
  have hlt : ∀ g, v.ownBlock = some g → n₀ ≤ g := fun g e => (hrow.lt g e).1
  have hlt' : ∀ g, v'.ownBlock = some g → n₀ ≤ g := fun g e => (hown'.lt g e).1
  refine ⟨(hB.alloc tmp).kept hgrow (fun e => by have := hlt tb e.symm; omega), hown'.kept (grownBy_setCellAt w6 tb c v') (.inr fun e => by have := hlt' tb e; omega), fun A hA hn => ?_⟩
  exact grownBy_trans (grownBy_trans (grownBy_trans hA (World.grownBy_alloc W tmp none) (fun g e => by cases e)) hgrow (fun g e => .inr (by have := hlt g e; omega))) (grownBy_setCellAt w6 tb c v') (fun g e => .inl (by cases e; rfl))
theorem five_new (w : World) (a b c d f : Value) (t : TypeId) : ∀ j u, [a, b, c, d, f][j]? = some u → (w.alloc (.cells #[a, b, c, d, f] t)).cell? ((⟨w.heap.size, 0, none⟩ : Addr).add j) = some u := by
  intro j u hj
  have e : (⟨w.heap.size, 0, none⟩ : Addr).add j = ⟨w.heap.size, j, none⟩ := by simp [Addr.add]; intro h; exact h.symm
  rw [e, World.cell?_alloc_new]
  simpa using hj
theorem Tryz.infoPeer : (Tryz.prog.info? 81).map (fun i => (i.zero, i.size, i.bytes)) = some (some (.agg #[.int .i64 0, .int .i64 0, .int .i64 0, .string ⟨#[]⟩, .slice none 0 0]), 5, 64) := by kernel_rfl
end Go.Proofs.YtlnkhbnbcmllaaaGreat
/- Copies of peers and of fetches, in rows of their own. -/
namespace Go.Proofs.YtlnkhbnbcmllaaaGreat
open Go.RowKit
/-- A block of five cells, all of them stored anew. -/
structure Store5 (u : World) (b : Nat) (c0 c1 c2 c3 c4 d0 d1 d2 d3 d4 : Value) : Prop where
  a0 : u.cell? ⟨b, 0, none⟩ = some c0
  f0 : u.frozen? ⟨b, 0, none⟩ = false
  a1 : (u.setCell ⟨b, 0, none⟩ d0).cell? ⟨b, 1, none⟩ = some c1
  f1 : (u.setCell ⟨b, 0, none⟩ d0).frozen? ⟨b, 1, none⟩ = false
  a2 : ((u.setCell ⟨b, 0, none⟩ d0).setCell ⟨b, 1, none⟩ d1).cell? ⟨b, 2, none⟩ = some c2
  f2 : ((u.setCell ⟨b, 0, none⟩ d0).setCell ⟨b, 1, none⟩ d1).frozen? ⟨b, 2, none⟩ = false
  a3 : (((u.setCell ⟨b, 0, none⟩ d0).setCell ⟨b, 1, none⟩ d1).setCell ⟨b, 2, none⟩ d2).cell? ⟨b, 3, none⟩ = some c3
  f3 : (((u.setCell ⟨b, 0, none⟩ d0).setCell ⟨b, 1, none⟩ d1).setCell ⟨b, 2, none⟩ d2).frozen? ⟨b, 3, none⟩ = false
  a4 : ((((u.setCell ⟨b, 0, none⟩ d0).setCell ⟨b, 1, none⟩ d1).setCell ⟨b, 2, none⟩ d2).setCell ⟨b, 3, none⟩ d3).cell? ⟨b, 4, none⟩ = some c4
  f4 : ((((u.setCell ⟨b, 0, none⟩ d0).setCell ⟨b, 1, none⟩ d1).setCell ⟨b, 2, none⟩ d2).setCell ⟨b, 3, none⟩ d3).frozen? ⟨b, 4, none⟩ = false
def set5 (u : World) (b : Nat) (d0 d1 d2 d3 d4 : Value) : World := (((((u.setCell ⟨b, 0, none⟩ d0).setCell ⟨b, 1, none⟩ d1).setCell ⟨b, 2, none⟩ d2).setCell ⟨b, 3, none⟩ d3).setCell ⟨b, 4, none⟩ d4)
theorem set5_def (u : World) (b : Nat) (d0 d1 d2 d3 d4 : Value) : (((((u.setCell ⟨b, 0, none⟩ d0).setCell ⟨b, 1, none⟩ d1).setCell ⟨b, 2, none⟩ d2).setCell ⟨b, 3, none⟩ d3).setCell ⟨b, 4, none⟩ d4) = set5 u b d0 d1 d2 d3 d4 := rfl
theorem Blk.store5 {u : World} {b : Nat} {T : TypeId} {c0 c1 c2 c3 c4 : Value} (h : Blk u b T #[c0, c1, c2, c3, c4]) (d0 d1 d2 d3 d4 : Value) : Store5 u b c0 c1 c2 c3 c4 d0 d1 d2 d3 d4 := by
  have h1 : Blk (u.setCell ⟨b, 0, none⟩ d0) b T #[d0, c1, c2, c3, c4] := h.set 0 d0
  have h2 : Blk ((u.setCell ⟨b, 0, none⟩ d0).setCell ⟨b, 1, none⟩ d1) b T #[d0, d1, c2, c3, c4] := h1.set 1 d1
  have h3 : Blk (((u.setCell ⟨b, 0, none⟩ d0).setCell ⟨b, 1, none⟩ d1).setCell ⟨b, 2, none⟩ d2) b T #[d0, d1, d2, c3, c4] := h2.set 2 d2
  have h4 : Blk ((((u.setCell ⟨b, 0, none⟩ d0).setCell ⟨b, 1, none⟩ d1).setCell ⟨b, 2, none⟩ d2).setCell ⟨b, 3, none⟩ d3) b T #[d0, d1, d2, d3, c4] := h3.set 3 d3
  exact ⟨h.cell 0, h.fz 0, h1.cell 1, h1.fz 1, h2.cell 2, h2.fz 2, h3.cell 3, h3.fz 3, h4.cell 4, h4.fz 4⟩
theorem Blk.set5 {u : World} {b : Nat} {T : TypeId} {c0 c1 c2 c3 c4 : Value} (h : Blk u b T #[c0, c1, c2, c3, c4]) (d0 d1 d2 d3 d4 : Value) : Blk (set5 u b d0 d1 d2 d3 d4) b T #[d0, d1, d2, d3, d4] := by
  have h1 : Blk (u.setCell ⟨b, 0, none⟩ d0) b T #[d0, c1, c2, c3, c4] := h.set 0 d0
  have h2 : Blk ((u.setCell ⟨b, 0, none⟩ d0).setCell ⟨b, 1, none⟩ d1) b T #[d0, d1, c2, c3, c4] := h1.set 1 d1
  have h3 : Blk (((u.setCell ⟨b, 0, none⟩ d0).setCell ⟨b, 1, none⟩ d1).setCell ⟨b, 2, none⟩ d2) b T #[d0, d1, d2, c3, c4] := h2.set 2 d2
  have h4 : Blk ((((u.setCell ⟨b, 0, none⟩ d0).setCell ⟨b, 1, none⟩ d1).setCell ⟨b, 2, none⟩ d2).setCell ⟨b, 3, none⟩ d3) b T #[d0, d1, d2, d3, c4] := h3.set 3 d3
  exact h4.set 4 d4
theorem grown_set5 (u : World) (b : Nat) (d0 d1 d2 d3 d4 : Value) : u.grownBy (set5 u b d0 d1 d2 d3 d4) (some b) :=
  grown_same (grown_same (grown_same (grown_same (grownBy_setCellAt u b 0 d0) (grownBy_setCellAt _ b 1 d1)) (grownBy_setCellAt _ b 2 d2)) (grownBy_setCellAt _ b 3 d3)) (grownBy_setCellAt _ b 4 d4)
theorem below_set5 {B b : Nat} {w u : World} (h : Below B w u) (hb : B ≤ b) (hs : B ≤ w.heap.size) (d0 d1 d2 d3 d4 : Value) : Below B w (set5 u b d0 d1 d2 d3 d4) :=
  h.grown (grown_set5 u b d0 d1 d2 d3 d4) (Nat.le_trans hs h.size) (fun g e => by cases e; exact hb)
theorem cellsQ_snoc (qs : PV) (p : Pr) (v : Value) : cellsQ (qs ++ [(p, v)]) = cellsQ qs ++ [.int .i64 p.lies, .int .i64 p.wait, .int .i64 p.last, .string p.asked, v] := by
  unfold cellsQ
  rw [List.flatMap_append]
  simp
theorem rowQ_set (qs : PV) (M : List Value) (m : Nat) (hq : qs.length = m) (hM : (m + 1) * 5 ≤ M.length) (p : Pr) (v : Value) :
    (((((cellsQ qs ++ M.drop (m * 5)).set (m * 5) (.int .i64 p.lies)).set (m * 5 + 1) (.int .i64 p.wait)).set (m * 5 + 2) (.int .i64 p.last)).set (m * 5 + 3) (.string p.asked)).set (m * 5 + 4) v = cellsQ (qs ++ [(p, v)]) ++ M.drop ((m + 1) * 5) := by
  have hl : (cellsQ qs).length = m * 5 := by rw [cellsQ_len, hq]
  have e2 : M.drop (m * 5) = M[m * 5]'(by omega) :: M[m * 5 + 1]'(by omega) :: M[m * 5 + 2]'(by omega) :: M[m * 5 + 3]'(by omega) :: M[m * 5 + 4]'(by omega) :: M.drop ((m + 1) * 5) := by
    rw [List.drop_eq_getElem_cons (by omega), List.drop_eq_getElem_cons (by omega), List.drop_eq_getElem_cons (by omega), List.drop_eq_getElem_cons (by omega), List.drop_eq_getElem_cons (by omega), show m * 5 + 1 + 1 + 1 + 1 + 1 = (m + 1) * 5 by omega]
  rw [e2, cellsQ_snoc]
  rw [List.set_append_right _ _ (by omega), List.set_append_right _ _ (by omega), List.set_append_right _ _ (by omega), List.set_append_right _ _ (by omega), List.set_append_right _ _ (by omega), hl, Nat.sub_self, show m * 5 + 1 - m * 5 = 1 by omega, show m * 5 + 2 - m * 5 = 2 by omega, show m * 5 + 3 - m * 5 = 3 by omega, show m * 5 + 4 - m * 5 = 4 by omega]
  simp
theorem rowQ_get (qs : PV) (M : List Value) (m j : Nat) (hq : qs.length = m) : (cellsQ qs ++ M.drop (m * 5))[m * 5 + j]? = M[m * 5 + j]? := by
  have hl : (cellsQ qs).length = m * 5 := by rw [cellsQ_len, hq]
  rw [List.getElem?_append_right (by omega), hl, List.getElem?_drop]
  congr 1
  omega
set_option maxRecDepth 100000 in
set_option maxHeartbeats 1000000 in
theorem toPeer_any (a b c : Int) (s : ByteArray) (v : Value) (ts : List ByteArray) (w : World) (hv : Reads w v ts) (hl : ts.length ≤ 1048576) :
    Calls Tryz.prog 51 #[.agg #[.int .i64 a, .int .i64 b, .int .i64 c, .string s, v]] w fun e w' => ∃ v', e = .returned (.agg #[.int .i64 a, .int .i64 b, .int .i64 c, .string s, v']) ∧ w'.ownsRow (w.heap.size + 3) 9 1 v' ts.length (ts.map Value.string) ∧ Below w.heap.size w w' := by
  have hN1 := ((Blk.new w 78 #[.int .i64 a, .int .i64 b, .int .i64 c, .string s, v]).alloc (.cells #[.int .i64 0, .int .i64 0, .int .i64 0, .string ⟨#[]⟩, .slice none 0 0] 81)).alloc (.cells #[.int .i64 a, .int .i64 b, .int .i64 c, .string s, .slice none 0 0] 81)
  have hN2 := (Blk.new (w.alloc (.cells #[.int .i64 a, .int .i64 b, .int .i64 c, .string s, v] 78)) 81 #[.int .i64 0, .int .i64 0, .int .i64 0, .string ⟨#[]⟩, .slice none 0 0]).alloc (.cells #[.int .i64 a, .int .i64 b, .int .i64 c, .string s, .slice none 0 0] 81)
  have hN3 := Blk.new ((w.alloc (.cells #[.int .i64 a, .int .i64 b, .int .i64 c, .string s, v] 78)).alloc (.cells #[.int .i64 0, .int .i64 0, .int .i64 0, .string ⟨#[]⟩, .slice none 0 0] 81)) 81 #[.int .i64 a, .int .i64 b, .int .i64 c, .string s, .slice none 0 0]
  rw [World.size_alloc] at hN2
  rw [World.size_alloc, World.size_alloc] at hN3
  have hA := (((Below.refl w.heap.size w).alloc (Nat.le_refl _) (.cells #[.int .i64 a, .int .i64 b, .int .i64 c, .string s, v] 78)).alloc (by simp) (.cells #[.int .i64 0, .int .i64 0, .int .i64 0, .string ⟨#[]⟩, .slice none 0 0] 81)).alloc (by simp; omega) (.cells #[.int .i64 a, .int .i64 b, .int .i64 c, .string s, .slice none 0 0] 81)
  have HT := hid (toStrs_any v ts _ (hv.below hA) hl)
  obtain ⟨av, cv, rfl, _⟩ := hv.form
  have HN2 := hid hN2
  have HN3 := hid hN3
  have HA := hid hA
  clear hv hA hN1 hN2 hN3
  go_enter Tryz.func51, Tryz.ntmps51
  go_wp2_with fail
  refine HT.out.mono ?_
  rintro e w1 ⟨v1, rfl, ho1, hb1⟩
  have N2 := HN2.out.below hb1
  have N3 := HN3.out.below hb1
  have B1 := HA.out.trans (hb1.mono (by simp; omega))
  rw [World.size_alloc, World.size_alloc, World.size_alloc] at ho1
  obtain ⟨a1, c1, rfl, _⟩ := row_form ho1
  have x4 : w1.cell? ⟨w.heap.size + 1 + 1, 4, none⟩ = some (.slice none 0 0) := N3.cell 4
  have x5 := N3.fz 4
  have M3 := N3.set 4 (.slice a1 ts.length c1)
  have g1 := grownBy_setCellAt w1 (w.heap.size + 1 + 1) 4 (.slice a1 ts.length c1)
  have M2 := N2.kept g1 (fun e => by simp at e)
  have MO := row_kept ho1 g1 (by omega)
  have MB := B1.setCell (p := ⟨w.heap.size + 1 + 1, 4, none⟩) (by simp; omega) (.slice a1 ts.length c1)
  have l0 : (w1.setCell ⟨w.heap.size + 1 + 1, 4, none⟩ (.slice a1 ts.length c1)).cell? ⟨w.heap.size + 1 + 1, 0, none⟩ = some (.int .i64 a) := M3.cell 0
  have l1 : (w1.setCell ⟨w.heap.size + 1 + 1, 4, none⟩ (.slice a1 ts.length c1)).cell? ⟨w.heap.size + 1 + 1, 1, none⟩ = some (.int .i64 b) := M3.cell 1
  have l2 : (w1.setCell ⟨w.heap.size + 1 + 1, 4, none⟩ (.slice a1 ts.length c1)).cell? ⟨w.heap.size + 1 + 1, 2, none⟩ = some (.int .i64 c) := M3.cell 2
  have l3 : (w1.setCell ⟨w.heap.size + 1 + 1, 4, none⟩ (.slice a1 ts.length c1)).cell? ⟨w.heap.size + 1 + 1, 3, none⟩ = some (.string s) := M3.cell 3
  have l4 : (w1.setCell ⟨w.heap.size + 1 + 1, 4, none⟩ (.slice a1 ts.length c1)).cell? ⟨w.heap.size + 1 + 1, 4, none⟩ = some (.slice a1 ts.length c1) := M3.cell 4
  obtain ⟨q0, k0, q1, k1, q2, k2, q3, k3, q4, k4⟩ := M2.store5 (.int .i64 a) (.int .i64 b) (.int .i64 c) (.string s) (.slice a1 ts.length c1)
  have Z := hid (M2.set5 (.int .i64 a) (.int .i64 b) (.int .i64 c) (.string s) (.slice a1 ts.length c1))
  have BB := hid (below_set5 MB (b := w.heap.size + 1) (by omega) (Nat.le_refl _) (.int .i64 a) (.int .i64 b) (.int .i64 c) (.string s) (.slice a1 ts.length c1))
  have OO := hid (row_kept MO (grown_set5 _ (w.heap.size + 1) (.int .i64 a) (.int .i64 b) (.int .i64 c) (.string s) (.slice a1 ts.length c1)) (by omega))
  clear N2 N3 B1 g1 M2 M3 MO MB ho1 hb1
  go_wp2
  rw [set5_def]
  refine bodyPost_ret (v := .agg #[.int .i64 a, .int .i64 b, .int .i64 c, .string s, .slice a1 ts.length c1]) (by simp [results, Tryz.results51, go_sem, Z.out.cell]) rfl ⟨_, rfl, OO.out, BB.out⟩
end Go.Proofs.YtlnkhbnbcmllaaaGreat
