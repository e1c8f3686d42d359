import Derived.Test.YtkjdabnglcabiaaGreatDoorShort
import Derived.Test.YtkjdabnglcabiaaGreatDoorHeapMath
import Derived.Test.YtkjdabnglcabiaaGreatDoorFormImpl
import Derived.Test.YtkjdabnglcabiaaGreatDoorRingA
/- spec.Describe: the list of a text. -/
namespace Go.Proofs.YtkjdabnglcabiaaGreatDoor
open Go.RowKit
set_option maxRecDepth 100000 in
set_option maxHeartbeats 2000000 in
theorem specDescribe_any (s : ByteArray) (n : Int) (w : World) (hs : s.size ≤ maxLen) :
  Calls Tryz.prog 26 #[.string s, .int .i64 n] w fun e w' => ∃ v, e = .returned (.agg #[.int .i64 (descN s n), v]) ∧ w'.ownsRow w.heap.size 9 1 v (descS s n).length ((descS s n).map Value.string) ∧ Below w.heap.size w w' := by
 obtain ⟨i0, hi, hz0, hz1, hz2⟩ := info_parts Tryz.info9
 have hs' := hs
 unfold maxLen at hs
 cases hh : hasL s n with
 | false =>
  have e1 : descN s n = 0 := by simp [descN, hh]
  have e2 : descS s n = [] := by simp [descS, hh]
  rw [e1, e2]; clear e1 e2
  cases hw : isW n with
  | false =>
   go_enter Tryz.func26, Tryz.ntmps26
   go_wp2_with (go_at_call 48; refine (l1Width_any _ _).mono ?_; rintro e w' ⟨rfl, rfl⟩)
   exact bodyPost_ret (v := .agg #[.int .i64 0, .slice none 0 0]) (by simp [results, Tryz.results26, go_sem]) rfl ⟨_, rfl, World.ownsRow_nil _ _ _ _, (Below.refl _ _).alloc (Nat.le_refl _) _⟩
  | true =>
   have h3 : ¬ (s.size ≤ 3000) := by simpa [hasL, hw] using hh
   go_enter Tryz.func26, Tryz.ntmps26
   go_wp2_with (go_at_call 48; refine (l1Width_any _ _).mono ?_; rintro e w' ⟨rfl, rfl⟩)
   exact bodyPost_ret (v := .agg #[.int .i64 0, .slice none 0 0]) (by simp [results, Tryz.results26, go_sem]) rfl ⟨_, rfl, World.ownsRow_nil _ _ _ _, (Below.refl _ _).alloc (Nat.le_refl _) _⟩
 | true =>
  have hw : isW n = true := by simp [hasL] at hh; exact hh.1
  have h3 : s.size ≤ 3000 := by simp [hasL] at hh; exact hh.2
  have e1 : descN s n = s.size := by simp [descN, hh]
  have e2 : descS s n = (piecesOf s).map (sumT n) := by simp [descS, hh]
  rw [e1, e2]; clear e1 e2
  have HS := hid fun (p : ByteArray) (hp : p.size ≤ 3000) W => specSum_any p n W (by unfold maxLen; omega)
  have HP := hid fun W => specPieces_any s W hs'
  have hn := piecesOf_len s
  have HZ := hid (piecesOf_size s)
  generalize piecesOf s = ps at *
  go_enter Tryz.func26, Tryz.ntmps26
  go_wp2_with (go_at_call 48; refine (l1Width_any _ _).mono ?_; rintro e w' ⟨rfl, rfl⟩)
  refine (HP.out _).mono ?_
  rintro e w2 ⟨vp, rfl, hop, hb2⟩
  rw [World.size_alloc, World.size_alloc] at hop hb2
  have hsz2 := hb2.size
  rw [World.size_alloc, World.size_alloc] at hsz2
  have bx : LBox w2 (w.heap.size + 1) s.size (.slice none 0 0) := by
   refine LBox.below (W := (w.alloc (.cells #[.int .i64 0, .slice none 0 0] 54)).alloc (.cells #[.int .i64 s.size, .slice none 0 0] 54)) ?_ (by rw [World.size_alloc, World.size_alloc]; exact hb2)
   have := World.alloc_heap_new (w.alloc (.cells #[.int .i64 0, .slice none 0 0] 54)) (.cells #[.int .i64 s.size, .slice none 0 0] 54)
   rwa [World.size_alloc] at this
  have br : LBox w2 w.heap.size 0 (.slice none 0 0) := by
   refine LBox.below (W := (w.alloc (.cells #[.int .i64 0, .slice none 0 0] 54)).alloc (.cells #[.int .i64 s.size, .slice none 0 0] 54)) ?_ (by rw [World.size_alloc, World.size_alloc]; exact hb2)
   exact LBox.alloc (World.alloc_heap_new w _) _
  have HB2 : Hid (Below w.heap.size w w2) := (((Below.refl _ w).alloc (Nat.le_refl _) _).alloc (by simp) _).trans (hb2.mono (by omega))
  obtain ⟨ap, capp, rfl, hap⟩ := row_form hop
  have HOP := hid hop
  clear hop hb2
  go_wp2
  go_loopw [7] (fun i wr => ∃ (k : Nat) (v : Value), k ≤ ps.length ∧ i = .int .i64 k ∧ w2.grownBy wr (some (w.heap.size + 1)) ∧ LBox wr (w.heap.size + 1) s.size v ∧ wr.ownsRow w2.heap.size 9 1 v k (((ps.take k).map (sumT n)).map Value.string)) (fun i _ => ps.length - (intOf i).toNat)
  case atStart => exact ⟨0, _, Nat.zero_le _, rfl, ⟨rfl, rfl, rfl, Nat.le_refl _, fun _ _ _ => rfl⟩, bx, World.ownsRow_nil _ _ _ _⟩
  case round =>
   clear bx
   obtain ⟨k, v, hk, rfl, hg, hbx, hrow⟩ := hrel
   by_cases hlt : k < ps.length
   ·have hpr := row_kept HOP.out hg (by omega)
    obtain ⟨g, rfl, hgb⟩ := hap (by omega)
    have hg2 : g < w2.heap.size := (HOP.out.lt g rfl).2
    have hcp : wr.cell? ⟨g, k, none⟩ = some (.string (ps.getD k ByteArray.empty)) := by
     rw [hpr.cellAt k (by omega)]; simp [hlt]
    have hps : (ps.getD k ByteArray.empty).size ≤ 3000 := by
     rw [List.getD_eq_getElem?_getD, List.getElem?_eq_getElem hlt]; exact HZ.out _ (List.getElem_mem hlt)
    have HT : Hid ((ps.take (k + 1)).map (sumT n) = (ps.take k).map (sumT n) ++ [sumT n (ps.getD k ByteArray.empty)]) := by
     show _ = _
     rw [List.take_add_one, List.map_append]; simp [hlt]
    have HSk := hid fun W => HS.out (ps.getD k ByteArray.empty) hps W
    have hlw : g < wr.heap.size := World.block_lt_of_cell? wr ⟨g, k, none⟩ hcp
    change Hid (∀ W, Calls Tryz.prog 30 #[.string (ps.getD k ByteArray.empty), .int .i64 n] W fun e w' => e = .returned (.string (sumT n (ps.getD k ByteArray.empty))) ∧ Below W.heap.size W w') at HSk
    generalize ps.getD k ByteArray.empty = p at *
    have hne : g ≠ w.heap.size + 1 := by omega
    have hne' : w.heap.size + 1 ≠ g := by omega
    have hgs := hg.size
    have hc1 := hbx.c1
    have hf1 := hbx.fz 1
    have HBX := hid hbx
    have HROW := hid hrow
    have HG := hid hg
    clear hpr hbx hrow hg hap
    go_wp2_with fail
    refine wp_region_held (S := fun w' => w'.cell? ⟨g, k, none⟩ = some (.string p)) (by kernel_rfl) ?_
    change wpAnyH _ _ _ _ _ _ _ _ (World.drew _)
    have hS0 : wr.drew.cell? ⟨g, k, none⟩ = some (.string p) := hcp
    have hl0 : (0 : Int) ≤ (k : Int) := by omega
    have hl1 : (k : Int) < (ps.length : Int) := by omega
    refine tkA 0 (.pointer (some ⟨w.heap.size + 1, 1, none⟩)) rfl hS0 ?_
    refine tkA 2 (.slice (some ⟨g, 0, none⟩) ps.length capp) rfl hS0 ?_
    refine tkA 3 (.int .i64 k) rfl hS0 ?_
    refine tkA 4 (.pointer (some ⟨g, k, none⟩)) rfl hS0 ?_
    refine tkA 5 (.string p) rfl hS0 ?_
    refine tkA 6 (.int .i64 n) rfl hS0 ?_
    have hec := enters_of Tryz.func30 (by kernel_rfl) rfl
    have HF : Hid (∀ w3, Below wr.drew.heap.size wr.drew w3 → w3.cell? ⟨g, k, none⟩ = some (.string p) ∧ LBox w3 (w.heap.size + 1) s.size v ∧ w3.ownsRow w2.heap.size 9 1 v k (((ps.take k).map (sumT n)).map Value.string) ∧ w2.grownBy w3 (some (w.heap.size + 1)) ∧ wr.heap.size ≤ w3.heap.size) := fun w3 hb => by
     have hb' : Below wr.heap.size wr w3 := ⟨hb.os, hb.tape, hb.output, hb.size, hb.block⟩
     exact ⟨(hb'.cell (p := ⟨g, k, none⟩) hlw).trans hcp, HBX.out.below hb', Below.row hb' HROW.out, grownBy_trans HG.out (grown_of_below hb') (fun g e => by cases e), hb'.size⟩
    refine held_two 1 7 (by kernel_rfl) (op_value (v := v) (w' := wr.drew) rfl rfl (by go_simp) ⟨hS0, ?_⟩) (op_calls (f := 30) (args := #[.string p, .int .i64 n]) rfl rfl (by go_simp) (HSk.out _) ?_)
    refine held_one 7 (by kernel_rfl) (op_calls (f := 30) (args := #[.string p, .int .i64 n]) rfl rfl (by go_simp) (HSk.out _) ?_)
    rintro e w3 ⟨rfl, hb3⟩
    obtain ⟨hcp3, hbx3, hrow3, hg3, hs3⟩ := HF.out w3 hb3
    have hc3 := hbx3.c1
    have hc3a := (hbx3.alloc (.cells #[.string (sumT n p)] 9)).c1
    have hcp3a := ((World.grownBy_alloc w3 (.cells #[.string (sumT n p)] 9) none).cell_far ⟨g, k, none⟩ (by simp; omega) (by simp)).trans hcp3
    refine ⟨_, rfl, hcp3, held_one 8 (by kernel_rfl) (op_value (v := .slice (some ⟨w3.heap.size, 0, none⟩) 1 1) (w' := w3.alloc (.cells #[.string (sumT n p)] 9)) rfl rfl (by go_simp) ⟨hcp3a, ?_⟩)⟩
    rotate_left
    rintro e w3 ⟨rfl, hb3⟩
    obtain ⟨hcp3, hbx3, hrow3, hg3, hs3⟩ := HF.out w3 hb3
    have hc3 := hbx3.c1
    have hc3a := (hbx3.alloc (.cells #[.string (sumT n p)] 9)).c1
    have hcp3a := ((World.grownBy_alloc w3 (.cells #[.string (sumT n p)] 9) none).cell_far ⟨g, k, none⟩ (by simp; omega) (by simp)).trans hcp3
    refine ⟨_, rfl, hcp3, held_two 1 8 (by kernel_rfl) (op_value (v := v) (w' := w3) rfl rfl (by go_simp) ⟨hcp3, held_one 8 (by kernel_rfl) (op_value (v := .slice (some ⟨w3.heap.size, 0, none⟩) 1 1) (w' := w3.alloc (.cells #[.string (sumT n p)] 9)) rfl rfl (by go_simp) ⟨hcp3a, ?_⟩)⟩) (op_value (v := .slice (some ⟨w3.heap.size, 0, none⟩) 1 1) (w' := w3.alloc (.cells #[.string (sumT n p)] 9)) rfl rfl (by go_simp) ⟨hcp3a, held_one 1 (by kernel_rfl) (op_value (v := v) (w' := w3.alloc (.cells #[.string (sumT n p)] 9)) rfl rfl (by go_simp) ⟨hcp3a, ?_⟩)⟩)⟩
    all_goals
     refine held_one 9 (by kernel_rfl) (op_wp rfl rfl (wp_append_lies _ (.tmp 29) (.tmp 36) 24 rfl w2.heap.size 9 i0 (.string ⟨#[]⟩) 1 16 Tryz.underlying24 hi hz0 hz1 hz2 rfl (by decide) v k _ (by go_simp) (hrow3.alloc _) ⟨w3.heap.size, 0, none⟩ 1 1 [.string (sumT n p)] (by go_simp) rfl (cell_one_new _ _ _) (by simp [Value.oneCell']) (by decide) (by unfold maxLen; omega) (by omega) (by simp; omega) (w3.heap.size + 1) (by simp) ?_))
     intro g' cap' w4 hown4 hgrow4 _ hlt4
     have hvb := fun g (e : v.ownBlock = some g) => (hrow3.lt g e).1
     obtain ⟨hbx4, hbx5, hrow5, hbl5, hkeep⟩ := lbox_stored hbx3 hrow3 (by omega) (by omega) hown4 hgrow4
     have hgs4 := hgrow4.size
     rw [World.size_alloc] at hgs4
     have hcp4 := (hgrow4.cell_far ⟨g, k, none⟩ (by simp; omega) (fun e => by have := hvb g e.symm; omega)).trans hcp3a
     have hc4 := hbx4.c1
     have hf4 := hbx4.fz 1
     have hcp5 := ((grownBy_setCellAt w4 (w.heap.size + 1) 1 (.slice (some ⟨g', 0, none⟩) (k + 1) cap')).cell_far ⟨g, k, none⟩ (by simp; omega) (fun e => hne (by cases e; rfl))).trans hcp4
     refine ⟨hcp4, held_one 10 (by kernel_rfl) (op_value (v := .pointer (some ⟨w.heap.size + 1, 1, none⟩)) (w' := w4) rfl rfl (by go_simp) ⟨hcp4, held_one 11 (by kernel_rfl) (op_skip (w' := w4.setCell ⟨w.heap.size + 1, 1, none⟩ (.slice (some ⟨g', 0, none⟩) (k + 1) cap')) rfl rfl (by go_simp) ⟨hcp5, wpAnyH_done (by kernel_rfl) ?_ _⟩)⟩)⟩
     go_wp2
     refine ⟨⟨k + 1, _, by omega, by go_num, grownBy_trans (grownBy_trans (grownBy_trans hg3 (World.grownBy_alloc w3 _ none) (fun g e => by cases e)) hgrow4 (fun g e => .inr (hvb g e))) (grownBy_setCellAt w4 _ 1 _) (fun g e => .inl (by cases e; rfl)), hbx5, ?_⟩, by simp [intOf]; omega⟩
     rw [HT.out, List.map_append]; exact hrow5
   ·obtain rfl : k = ps.length := by omega
    obtain ⟨av, cv, rfl, _⟩ := row_form hrow
    have hbr := br.kept hg (fun e => by simp at e)
    have hbr' : LBox (wr.setCell ⟨w.heap.size, 0, none⟩ (.int .i64 s.size)) w.heap.size s.size (.slice none 0 0) := hbr.set0 _
    have hr0' := hbr'.c1
    have hf0' := hbr'.fz 1
    have hc0 := hbx.c0
    have hc1 := hbx.c1
    have hr0 := hbr.c0
    have hr1 := hbr.c1
    have hf0 := hbr.fz 0
    have hf1 := hbr.fz 1
    have HX := hid hrow
    have HG := hid hg
    clear hrow hg
    go_wp2
    refine bodyPost_ret (v := .agg #[.int .i64 s.size, .slice av ps.length cv]) (by simp [results, Tryz.results26, go_sem, (hbr'.set1 (.slice av ps.length cv)).c0, (hbr'.set1 (.slice av ps.length cv)).c1]) rfl ⟨_, rfl, ?_, ?_⟩
    ·have h1 := row_kept (row_kept HX.out (grownBy_setCellAt wr w.heap.size 0 (.int .i64 s.size)) (by omega)) (grownBy_setCellAt _ w.heap.size 1 (.slice av ps.length cv)) (by omega)
     rw [List.take_length] at h1
     rw [List.length_map]
     exact ownsRow_base h1 (by omega)
    ·exact ((HB2.out.grown HG.out (by omega) (fun g e => by cases e; omega)).setCell (p := ⟨w.heap.size, 0, none⟩) (Nat.le_refl _) _).setCell (p := ⟨w.heap.size, 1, none⟩) (Nat.le_refl _) _
end Go.Proofs.YtkjdabnglcabiaaGreatDoor
/- impl.Describe: the list of a text. -/
namespace Go.Proofs.YtkjdabnglcabiaaGreatDoor
open Go.RowKit
attribute [local go_sem] Oper.semAt_some
set_option maxRecDepth 100000 in
set_option maxHeartbeats 400000 in
theorem hasList_any (s : ByteArray) (n : Int) (w : World) : Calls Tryz.prog 73 #[.string s, .int .i64 n] w fun e w' => e = .returned (.bool (hasL s n)) ∧ w' = w := by
 cases hw : isW n with
 | false =>
  have e : hasL s n = false := by simp [hasL, hw]
  rw [e]; clear e
  go_enter Tryz.func73, Tryz.ntmps73
  go_wp2_with (go_at_call 37; refine (isWidth_any _ _).mono ?_; rintro e w' ⟨rfl, rfl⟩)
  go_ret
  exact ⟨rfl, rfl⟩
 | true =>
  have e : hasL s n = decide ((s.size : Int) ≤ 3000) := by simp [hasL, hw]; omega
  rw [e]; clear e
  go_enter Tryz.func73, Tryz.ntmps73
  go_wp2_with (go_at_call 37; refine (isWidth_any _ _).mono ?_; rintro e w' ⟨rfl, rfl⟩)
  go_ret
  exact ⟨rfl, rfl⟩
/-- What holds between two rounds. -/
def DI (w : World) (s : ByteArray) (n : Int) (pre : List ByteArray) (W : World) : Prop :=
 (∃ v, LBox W (w.heap.size + 2) s.size v ∧ W.ownsRow (w.heap.size + 4) 9 1 v pre.length ((pre.map (sumT n)).map Value.string)) ∧ Boxed W w.heap.size 3 (.int .i64 n) ∧ LBox W (w.heap.size + 1) 0 (.slice none 0 0) ∧ Below w.heap.size w W ∧ w.heap.size + 4 ≤ W.heap.size
theorem DI.grown {w : World} {s : ByteArray} {n : Int} {pre : List ByteArray} {A A' : World} {row : Option Nat} (h : DI w s n pre A) (hg : A.grownBy A' row) (hr : ∀ r, row = some r → w.heap.size + 4 ≤ r ∧ ∀ c, A.heap[r]? ≠ some (.cells c 9 (0, 0))) : DI w s n pre A' := by
 obtain ⟨⟨v, hv, hrow⟩, hn, hl, hB, hsz⟩ := h
 have ne : ∀ j, j < w.heap.size + 4 → some j ≠ row := fun j hj e => by have := (hr j e.symm).1; omega
 refine ⟨⟨v, hv.kept hg (ne _ (by omega)), hrow.kept hg ?_⟩, hn.kept hg (ne _ (by omega)), hl.kept hg (ne _ (by omega)), hB.grown hg (by omega) (fun r e => by have := (hr r e).1; omega), Nat.le_trans hsz hg.size⟩
 rcases hrow with ⟨_, ⟨rfl, _⟩ | ⟨g, cap, cur, rfl, _, hgc, _⟩⟩
 ·exact .inl rfl
 ·refine .inr fun e => ?_
  exact (hr g (by rw [← e]; rfl)).2 cur hgc
theorem DI.own (w : World) (s : ByteArray) (n : Int) : OwnFrom (w.heap.size + 4) (DI w s n) := fun pre W W' row h hg hr =>
 h.grown hg fun r e => ⟨(hr r e).1, fun c hc => by obtain ⟨_, o, ho, hn⟩ := hr r e; rw [ho] at hc; cases hc; cases hn⟩
theorem DI.ab (w : World) (s : ByteArray) (n : Int) : AbT 122 (w.heap.size + 4) (DI w s n) := fun pre W W' row h hg hr =>
 h.grown hg fun r e => ⟨(hr r e).1, fun c hc => by obtain ⟨_, c', ho⟩ := hr r e; rw [ho] at hc; simp at hc⟩
/-- The end of a round. -/
theorem DI.end {w W w1 W2 : World} {s x : ByteArray} {n : Int} {pre : List ByteArray} {v' : Value} (h : DI w s n pre W) (hb1 : Below W.heap.size W w1)
  (hv3 : LBox W2 (w.heap.size + 2) s.size v') (hr3 : W2.ownsRow (w.heap.size + 4) 9 1 v' (pre.length + 1) ((pre.map (sumT n)).map Value.string ++ [.string (sumT n x)])) (hb3 : Below (w.heap.size + 2) w1 W2)
  (hkeep : ∀ (j : Nat) (o : Obj), w1.heap[j]? = some o → j ≠ w.heap.size + 2 → (j < w.heap.size + 4 ∨ ∀ c, o ≠ .cells c 9 (0, 0)) → W2.heap[j]? = some o) :
  Exit.normal = Exit.normal ∧ KeepsFrom (w.heap.size + 4) W W2 ∧ KeepP (w.heap.size + 3) W W2 ∧ DI w s n (pre ++ [x]) W2 := by
 obtain ⟨⟨v, hv, hrow⟩, hn, hl, hB, hsz⟩ := h
 have k1 : ∀ (j : Nat) (o : Obj), W.heap[j]? = some o → w1.heap[j]? = some o := fun j o h => (hb1.block j (Array.getElem?_eq_some_iff.1 h).1).trans h
 have hz : W.heap.size ≤ W2.heap.size := Nat.le_trans hb1.size hb3.size
 refine ⟨rfl, ⟨hz, fun j o hj ho hc => hkeep j o (k1 j o ho) (by omega) (.inr fun c e => ?_)⟩, ⟨fun j c hj => hkeep j _ (k1 j _ hj) ?_ (.inr fun c e => ?_), ?_⟩, ⟨⟨v', hv3, ?_⟩, hkeep _ _ (k1 _ _ hn) (by omega) (.inl (by omega)), hkeep _ _ (k1 _ _ hl) (by omega) (.inl (by omega)), hB.trans ((hb1.mono hB.size).trans (hb3.mono (by omega))), by omega⟩⟩
 ·subst e; cases hc
 ·intro e
  subst e
  have := hv.symm.trans hj
  simp at this
 ·cases e
 ·have h1 : w.heap.size + 3 < W.heap.size := by omega
  obtain ⟨o, ho⟩ : ∃ o, W.heap[w.heap.size + 3]? = some o := ⟨_, Array.getElem?_eq_getElem h1⟩
  rw [ho]; exact hkeep _ o (k1 _ o ho) (by omega) (.inl (by omega))
 ·simpa using hr3
set_option maxRecDepth 100000 in
set_option maxHeartbeats 2000000 in
theorem implDescribe_any (s : ByteArray) (n : Int) (w : World) :
  Calls Tryz.prog 46 #[.string s, .int .i64 n] w fun e w' => ∃ v, e = .returned (.agg #[.int .i64 (descN s n), v]) ∧ w'.ownsRow w.heap.size 9 1 v (descS s n).length ((descS s n).map Value.string) ∧ Below w.heap.size w w' := by
 obtain ⟨i0, hi, hz0, hz1, hz2⟩ := info_parts Tryz.info9
 refine (callsIn_wide (n := 0)).1 ?_
 refine callsIn_of_wp_marks Tryz.func46 rfl trivial ?_ rfl
 simp only [Tryz.ntmps46, List.size_toArray, List.length_cons, List.length_nil, Nat.reduceAdd, Nat.reduceSub, Array.replicate_succ, Array.replicate_zero, List.push_toArray, List.append_toArray, List.nil_append, List.cons_append]
 have HL := hid fun W => hasList_any s n W
 cases hh : hasL s n with
 | false =>
  have e1 : descN s n = 0 := by simp [descN, hh]
  have e2 : descS s n = [] := by simp [descS, hh]
  rw [e1, e2]; clear e1 e2
  rw [hh] at HL
  gi_wp2_with (refine ⟨trivial, rfl, ?_⟩; gi_at_call 73; refine (callsIn_wide.2 (HL.out _)).mono ?_; rintro e w' ⟨rfl, rfl⟩)
  exact ⟨_, by simp [results, Tryz.results46, go_sem], _, rfl, World.ownsRow_nil _ _ _ _, ((Below.refl _ _).alloc (Nat.le_refl _) _).alloc (by simp) _⟩
 | true =>
  have e1 : descN s n = s.size := by simp [descN, hh]
  have e2 : descS s n = (piecesOf s).map (sumT n) := by simp [descS, hh]
  rw [e1, e2]; clear e1 e2
  rw [hh] at HL
  gi_wp2_with (first | (refine ⟨trivial, rfl, ?_⟩; gi_at_call 73; refine (callsIn_wide.2 (HL.out _)).mono ?_; rintro e w' ⟨rfl, rfl⟩) | (refine ⟨trivial, rfl, ?_⟩; gi_at_call 47; refine (callsIn_wide.2 (eachPiece_any s _)).mono ?_; rintro e w' ⟨rfl, rfl⟩))
  have bN := Boxed.new (((w.alloc (.cells #[.int .i64 n] 3)).alloc (.cells #[.int .i64 0, .slice none 0 0] 54)).alloc (.cells #[.int .i64 s.size, .slice none 0 0] 54)) 9 (.string s)
  rw [World.size_alloc, World.size_alloc, World.size_alloc] at bN
  have hl3 : LBox (((w.alloc (.cells #[.int .i64 n] 3)).alloc (.cells #[.int .i64 0, .slice none 0 0] 54)).alloc (.cells #[.int .i64 s.size, .slice none 0 0] 54)) (w.heap.size + 2) s.size (.slice none 0 0) := by
   have := World.alloc_heap_new ((w.alloc (.cells #[.int .i64 n] 3)).alloc (.cells #[.int .i64 0, .slice none 0 0] 54)) (.cells #[.int .i64 s.size, .slice none 0 0] 54)
   rwa [World.size_alloc, World.size_alloc] at this
  have hl2 : LBox ((w.alloc (.cells #[.int .i64 n] 3)).alloc (.cells #[.int .i64 0, .slice none 0 0] 54)) (w.heap.size + 1) 0 (.slice none 0 0) := by
   have := World.alloc_heap_new (w.alloc (.cells #[.int .i64 n] 3)) (.cells #[.int .i64 0, .slice none 0 0] 54)
   rwa [World.size_alloc] at this
  have hB0 : Below w.heap.size w ((((w.alloc (.cells #[.int .i64 n] 3)).alloc (.cells #[.int .i64 0, .slice none 0 0] 54)).alloc (.cells #[.int .i64 s.size, .slice none 0 0] 54)).alloc (.cells #[.string s] 9)) := ((((Below.refl _ w).alloc (Nat.le_refl _) _).alloc (by simp) _).alloc (by simp; omega) _).alloc (by simp; omega) _
  have hD0 : DI w s n [] ((((w.alloc (.cells #[.int .i64 n] 3)).alloc (.cells #[.int .i64 0, .slice none 0 0] 54)).alloc (.cells #[.int .i64 s.size, .slice none 0 0] 54)).alloc (.cells #[.string s] 9)) :=
   ⟨⟨_, hl3.alloc _, World.ownsRow_nil _ _ _ _⟩, (((Boxed.new w 3 (.int .i64 n)).alloc _).alloc _).alloc _, (hl2.alloc _).alloc _, hB0, by simp⟩
  clear hl3 hl2 hB0
  have hsz0 : ((((w.alloc (.cells #[.int .i64 n] 3)).alloc (.cells #[.int .i64 0, .slice none 0 0] 54)).alloc (.cells #[.int .i64 s.size, .slice none 0 0] 54)).alloc (.cells #[.string s] 9)).heap.size = w.heap.size + 4 := by simp
  refine wp_range (T := 122) (gf := 79) (lb := #[.pointer (some ⟨w.heap.size + 3, 0, none⟩)]) rfl (enters_of Tryz.func79 (by kernel_rfl) rfl)
   (iter_seq s (w.heap.size + 3) _ (by simp) bN) (fun h k => h.trans k) (fun W l o o' hl h ho => KeepP.put W l o o' (by simp at hl; omega) h ho) (Below.refl _ _) (fun _ => rfl)
   (DI w s n) (by rw [hsz0]; exact DI.own w s n) (by rw [hsz0]; exact DI.ab w s n) hD0
   (fun x => { tmps := #[.string s, .int .i64 n, undef, .pointer (some ⟨w.heap.size, 0, none⟩), .pointer (some ⟨w.heap.size + 1, 0, none⟩), .pointer (some ⟨w.heap.size + 2, 0, none⟩), .string x, .string s, .int .i64 n, .bool true, .bool false, undef, .string s, .int .i64 s.size, .agg #[.int .i64 s.size, .slice none 0 0], .string s, .func (.func 79) #[] #[.pointer (some ⟨w.heap.size + 3, 0, none⟩)], .string x, undef, undef, undef, undef, undef, undef, undef, undef, undef], defers := [] }) ?assign ?body ?done
  case assign =>
   intro l x W K hK
   gi_wp2
   exact hK
  case body =>
   rintro l pre x W hD hpx
   rw [hsz0]
   have hx : x.size ≤ 3000 := piecesOf_size s x (hpx.subset (by simp))
   have hpl : pre.length + 1 ≤ 3000 := by have := hpx.length_le; have := piecesOf_len s; simp at *; omega
   have HD := hid hD
   obtain ⟨⟨v, hv, hrow⟩, hn, hl, hB, hsz⟩ := hD
   have HSk := hid fun W => implSum_any x n W (by unfold maxLen; omega)
   change Hid (∀ W, Calls Tryz.prog 41 #[.string x, .int .i64 n] W fun e w' => e = .returned (.string (sumT n x)) ∧ Below W.heap.size W w') at HSk
   have hc1 := hv.c1
   have hcn := hn.cell
   clear hpx bN hD0 HL
   gi_wp2_with fail
   refine wpIn_region_held (S := fun w' => w'.cell? ⟨w.heap.size, 0, none⟩ = some (.int .i64 n)) (by kernel_rfl) (by kernel_rfl) (by rintro ⟨_, _, h, _⟩; cases h) ?_
   have hS0 : W.drew.cell? ⟨w.heap.size, 0, none⟩ = some (.int .i64 n) := hcn
   refine tkA 0 (.pointer (some ⟨w.heap.size + 2, 1, none⟩)) rfl hS0 ?_
   refine tkA 2 (.string x) rfl hS0 ?_
   refine tkA 3 (.int .i64 n) rfl hS0 ?_
   have hec := enters_of Tryz.func41 (by kernel_rfl) rfl
   have HF : Hid (∀ w3, Below W.drew.heap.size W.drew w3 → Below W.heap.size W w3 ∧ w3.cell? ⟨w.heap.size, 0, none⟩ = some (.int .i64 n) ∧ LBox w3 (w.heap.size + 2) s.size v ∧ w3.ownsRow (w.heap.size + 4) 9 1 v pre.length ((pre.map (sumT n)).map Value.string) ∧ W.heap.size ≤ w3.heap.size) := fun w3 hb => by
    have hb' : Below W.heap.size W w3 := ⟨hb.os, hb.tape, hb.output, hb.size, hb.block⟩
    exact ⟨hb', (Below.boxed hb' hn).cell, hv.below hb', Below.row hb' hrow, hb'.size⟩
   clear hrow hv hn hl hB
   refine held_two 1 4 (by kernel_rfl) (op_value (v := v) (w' := W.drew) rfl rfl (by go_simp) ⟨hS0, ?_⟩) (op_calls (f := 41) (args := #[.string x, .int .i64 n]) rfl rfl (by go_simp) (HSk.out _) ?_)
   refine held_one 4 (by kernel_rfl) (op_calls (f := 41) (args := #[.string x, .int .i64 n]) rfl rfl (by go_simp) (HSk.out _) ?_)
   rintro e w3 ⟨rfl, hb3⟩
   obtain ⟨hb3', hcp3, hbx3, hrow3, hs3⟩ := HF.out w3 hb3
   have hc3 := hbx3.c1
   have hc3a := (hbx3.alloc (.cells #[.string (sumT n x)] 9)).c1
   have hcp3a := ((World.grownBy_alloc w3 (.cells #[.string (sumT n x)] 9) none).cell_far ⟨w.heap.size, 0, none⟩ (by simp; omega) (by simp)).trans hcp3
   refine ⟨_, rfl, hcp3, held_one 5 (by kernel_rfl) (op_value (v := .slice (some ⟨w3.heap.size, 0, none⟩) 1 1) (w' := w3.alloc (.cells #[.string (sumT n x)] 9)) rfl rfl (by go_simp) ⟨hcp3a, ?_⟩)⟩
   rotate_left
   rintro e w3 ⟨rfl, hb3⟩
   obtain ⟨hb3', hcp3, hbx3, hrow3, hs3⟩ := HF.out w3 hb3
   have hc3 := hbx3.c1
   have hc3a := (hbx3.alloc (.cells #[.string (sumT n x)] 9)).c1
   have hcp3a := ((World.grownBy_alloc w3 (.cells #[.string (sumT n x)] 9) none).cell_far ⟨w.heap.size, 0, none⟩ (by simp; omega) (by simp)).trans hcp3
   refine ⟨_, rfl, hcp3, held_two 1 5 (by kernel_rfl) (op_value (v := v) (w' := w3) rfl rfl (by go_simp) ⟨hcp3, held_one 5 (by kernel_rfl) (op_value (v := .slice (some ⟨w3.heap.size, 0, none⟩) 1 1) (w' := w3.alloc (.cells #[.string (sumT n x)] 9)) rfl rfl (by go_simp) ⟨hcp3a, ?_⟩)⟩) (op_value (v := .slice (some ⟨w3.heap.size, 0, none⟩) 1 1) (w' := w3.alloc (.cells #[.string (sumT n x)] 9)) rfl rfl (by go_simp) ⟨hcp3a, held_one 1 (by kernel_rfl) (op_value (v := v) (w' := w3.alloc (.cells #[.string (sumT n x)] 9)) rfl rfl (by go_simp) ⟨hcp3a, ?_⟩)⟩)⟩
   all_goals
    refine held_one 6 (by kernel_rfl) (op_wp rfl rfl (wp_append_lies _ (.tmp 19) (.tmp 23) 24 rfl (w.heap.size + 4) 9 i0 (.string ⟨#[]⟩) 1 16 Tryz.underlying24 hi hz0 hz1 hz2 rfl (by decide) v pre.length _ (by go_simp) (hrow3.alloc _) ⟨w3.heap.size, 0, none⟩ 1 1 [.string (sumT n x)] (by go_simp) rfl (cell_one_new _ _ _) (by simp [Value.oneCell']) (by decide) (by unfold maxLen; omega) (by omega) (by simp; omega) (w3.heap.size + 1) (by simp) ?_))
    intro g' cap' w4 hown4 hgrow4 _ hlt4
    have hvb := fun g (e : v.ownBlock = some g) => (hrow3.lt g e).1
    obtain ⟨hbx4, hbx5, hrow5, hbl5, hkeep⟩ := lbox_stored hbx3 hrow3 (by omega) (by omega) hown4 hgrow4
    have hgs4 := hgrow4.size
    rw [World.size_alloc] at hgs4
    have hcp4 := (hgrow4.cell_far ⟨w.heap.size, 0, none⟩ (by simp; omega) (fun e => by have := hvb w.heap.size e.symm; omega)).trans hcp3a
    have hc4 := hbx4.c1
    have hf4 := hbx4.fz 1
    have hcp5 := ((grownBy_setCellAt w4 (w.heap.size + 2) 1 (.slice (some ⟨g', 0, none⟩) (pre.length + 1) cap')).cell_far ⟨w.heap.size, 0, none⟩ (by simp; omega) (fun e => by simp at e)).trans hcp4
    refine ⟨hcp4, held_one 7 (by kernel_rfl) (op_value (v := .pointer (some ⟨w.heap.size + 2, 1, none⟩)) (w' := w4) rfl rfl (by go_simp) ⟨hcp4, held_one 8 (by kernel_rfl) (op_skip (w' := w4.setCell ⟨w.heap.size + 2, 1, none⟩ (.slice (some ⟨g', 0, none⟩) (pre.length + 1) cap')) rfl rfl (by go_simp) ⟨hcp5, wpAnyH_done (by kernel_rfl) ?_ _⟩)⟩)⟩
    exact HD.out.end hb3' hbx5 hrow5 hbl5 hkeep
  case done =>
   rintro D W hD ⟨⟨v, hv, hrow⟩, hn, hl, hB, hsz⟩ hK
   obtain ⟨av, cv, rfl, _⟩ := row_form hrow
   have hl' : LBox (W.setCell ⟨w.heap.size + 1, 0, none⟩ (.int .i64 s.size)) (w.heap.size + 1) s.size (.slice none 0 0) := hl.set0 _
   have hc0 := hv.c0
   have hc1 := hv.c1
   have hr0 := hl.c0
   have hr1 := hl.c1
   have hf0 := hl.fz 0
   have hf1 := hl.fz 1
   have hr0' := hl'.c1
   have hf0' := hl'.fz 1
   have hl2 := hl'.set1 (.slice av (piecesOf s).length cv)
   have hg1 := grownBy_setCellAt W (w.heap.size + 1) 0 (.int .i64 s.size)
   have hg2 := grownBy_setCellAt (W.setCell ⟨w.heap.size + 1, 0, none⟩ (.int .i64 s.size)) (w.heap.size + 1) 1 (.slice av (piecesOf s).length cv)
   have hr2 := row_kept (row_kept hrow hg1 (by omega)) hg2 (by omega)
   have hB2 := (hB.setCell (p := ⟨w.heap.size + 1, 0, none⟩) (by simp) (.int .i64 s.size)).setCell (p := ⟨w.heap.size + 1, 1, none⟩) (by simp) (.slice av (piecesOf s).length cv)
   have hD4 : w.heap.size + 4 ≤ D := by simpa using hD
   have hDl : D < W.heap.size := (Array.getElem?_eq_some_iff.1 hK).1
   have hK1 := (hg1.block D hDl (fun e => by simp at e; omega)).trans hK
   have hK2 := (hg2.block D (Array.getElem?_eq_some_iff.1 hK1).1 (fun e => by simp at e; omega)).trans hK1
   have HR2 := hid hr2
   have HB2 := hid hB2
   have HL2 := hid hl2
   have HK2 := hid hK2
   clear hr2 hB2 hl2 hK2 hg1 hg2 hK1 hrow hB hv hl hl'
   gi_wp2
   refine ⟨by simp, .inl ⟨_, _, rfl, run_takeDeferred HK2.out, ?_⟩⟩
   have hl3 := HL2.out.kept (grownBy_putObj' _ D (.deferred none)) (fun e => by simp at e; omega)
   have h30 := hl3.c0
   have h31 := hl3.c1
   refine ⟨.agg #[.int .i64 s.size, .slice av (piecesOf s).length cv], by simp [results, Tryz.results46, go_sem, h30, h31], _, rfl, ?_, ?_⟩
   ·rw [List.length_map]
    exact ownsRow_base (ownsRow_putObj HR2.out _ HK2.out rfl) (by omega)
   ·exact HB2.out.trans (belowK_b (w := w) (Nat.le_refl _) _ D _ _ (by omega) HK2.out rfl rfl)
end Go.Proofs.YtkjdabnglcabiaaGreatDoor
/- spec.Name and impl.Name: the name of a text. -/
namespace Go.Proofs.YtkjdabnglcabiaaGreatDoor
open Go.RowKit
/-- The name of a text. -/
def nameB (s : ByteArray) (m : Int) : ByteArray := if hasL s m then sumT m (formR (descN s m) (descS s m) m) else ⟨#[]⟩
theorem sumT_no {m : Int} (h : isW m = false) (s : ByteArray) : sumT m s = ⟨#[]⟩ := by
 unfold sumT sumOf
 rw [h]; simp
theorem descS_size (s : ByteArray) (m : Int) : ∀ i, ((descS s m).getD i ByteArray.empty).size ≤ maxLen := by
 intro i
 have key : ∀ x ∈ descS s m, x.size ≤ 8 := by
  intro x hx
  unfold descS at hx
  split at hx
  ·obtain ⟨p, _, rfl⟩ := List.mem_map.1 hx
   exact sumT_size m p
  ·simp at hx
 by_cases h : i < (descS s m).length
 ·rw [List.getD_eq_getElem?_getD, List.getElem?_eq_getElem h]
  have := key _ (List.getElem_mem h)
  unfold maxLen
  simp only [Option.getD_some]
  omega
 ·rw [List.getD_eq_getElem?_getD, List.getElem?_eq_none (by omega)]
  simp
theorem formR_size (s : ByteArray) (m : Int) : (formR (descN s m) (descS s m) m).size ≤ maxLen := by
 unfold formR
 split
 ·next h =>
  unfold okL at h
  simp only [Bool.and_eq_true, decide_eq_true_eq, List.all_eq_true] at h
  obtain ⟨hw, hn, hl, hall⟩ := h
  have hm8 : 1 ≤ m ∧ m ≤ 8 := by simpa [isW] using hw
  show (formL (descN s m).toNat (descS s m)).toArray.size ≤ maxLen
  rw [List.size_toArray]
  have h1 := rowsL_len 8 (descS s m) (fun x hx => by have := hall x hx; omega)
  have h2 := decB_len4 (descN s m).toNat (by omega)
  have h5 : (descS s m).length * (2 * 8 + 1) ≤ 375 * 17 := Nat.mul_le_mul hl (by omega)
  unfold formL headL maxLen
  simp only [List.length_append, List.length_cons, List.length_nil]
  omega
 ·simp [maxLen, ByteArray.size]
set_option maxRecDepth 100000 in
set_option maxHeartbeats 400000 in
theorem specName_any (s : ByteArray) (m : Int) (w : World) (hs : s.size ≤ maxLen) :
  Calls Tryz.prog 8 #[.string s, .int .i64 m] w fun e w' => e = .returned (.string (nameB s m)) ∧ Below w.heap.size w w' := by
 have hs' := hs
 unfold maxLen at hs
 by_cases h3 : 3000 < s.size
 ·have e : nameB s m = ⟨#[]⟩ := by
   unfold nameB hasL
   rw [if_neg]
   simp; omega
  rw [e]; clear e
  go_enter Tryz.func8, Tryz.ntmps8
  go_wp2
  go_ret
  exact ⟨rfl, Below.refl _ _⟩
 ·have e : nameB s m = sumT m (formR (descN s m) (descS s m) m) := by
   unfold nameB
   cases hw : isW m with
   | true => rw [if_pos]; simp [hasL, hw]; omega
   | false => rw [if_neg (by simp [hasL, hw]), sumT_no hw]
  rw [e]; clear e
  have hdl := descS_len s m
  have HD := hid fun W => specDescribe_any s m W hs'
  have HF := hid fun W v (h : Reads W v (descS s m)) => specFormList_any (descN s m) v (descS s m) m W h (by unfold maxLen; omega) (descS_size s m)
  have HU := hid fun W => specSum_any (formR (descN s m) (descS s m) m) m W (formR_size s m)
  change Hid (∀ W, Calls Tryz.prog 30 #[.string (formR (descN s m) (descS s m) m), .int .i64 m] W fun e w' => e = .returned (.string (sumT m (formR (descN s m) (descS s m) m))) ∧ Below W.heap.size W w') at HU
  generalize formR (descN s m) (descS s m) m = fr at *
  generalize descS s m = ds at *
  generalize descN s m = dn at *
  generalize sumT m fr = r at *
  go_enter Tryz.func8, Tryz.ntmps8
  go_wp2_with fail
  refine (HD.out _).mono ?_
  rintro e w1 ⟨v1, rfl, ho1, hb1⟩
  go_wp2_with fail
  refine (HF.out _ _ (Reads.of_row ho1)).mono ?_
  rintro e w2 ⟨rfl, hb2⟩
  go_wp2_with fail
  refine (HU.out _).mono ?_
  rintro e w3 ⟨rfl, hb3⟩
  have HB := hid (hb1.trans ((hb2.mono hb1.size).trans (hb3.mono (Nat.le_trans hb1.size hb2.size))))
  clear hb1 hb2 hb3 ho1
  go_wp2
  go_ret
  exact ⟨rfl, HB.out⟩
set_option maxRecDepth 100000 in
set_option maxHeartbeats 400000 in
theorem implName_any (s : ByteArray) (m : Int) (w : World) (htab : Lib.TabIs Tryz.prog w "internal/strconv.uint64pow10" .u64 Lib.pow10Tab) :
  Calls Tryz.prog 44 #[.string s, .int .i64 m] w fun e w' => e = .returned (.string (nameB s m)) ∧ Below w.heap.size w w' := by
 have HL := hid fun W => hasList_any s m W
 cases hh : hasL s m with
 | false =>
  have e : nameB s m = ⟨#[]⟩ := by simp [nameB, hh]
  rw [e]; clear e
  rw [hh] at HL
  go_enter Tryz.func44, Tryz.ntmps44
  go_wp2_with (go_at_call 73; refine (HL.out _).mono ?_; rintro e w' ⟨rfl, rfl⟩)
  go_ret
  exact ⟨rfl, Below.refl _ _⟩
 | true =>
  have e : nameB s m = sumT m (formR (descN s m) (descS s m) m) := by simp [nameB, hh]
  rw [e]; clear e
  rw [hh] at HL
  have hdl := descS_len s m
  have HT := hid htab
  have HD := hid fun W => implDescribe_any s m W
  have HF := hid fun W v (h : Reads W v (descS s m)) h2 => implFormList_any (descN s m) v (descS s m) m W h (by unfold maxLen; omega) (descS_size s m) h2
  have HU := hid fun W => implSum_any (formR (descN s m) (descS s m) m) m W (formR_size s m)
  change Hid (∀ W, Calls Tryz.prog 41 #[.string (formR (descN s m) (descS s m) m), .int .i64 m] W fun e w' => e = .returned (.string (sumT m (formR (descN s m) (descS s m) m))) ∧ Below W.heap.size W w') at HU
  generalize formR (descN s m) (descS s m) m = fr at *
  generalize descS s m = ds at *
  generalize descN s m = dn at *
  generalize sumT m fr = r at *
  clear htab hh
  go_enter Tryz.func44, Tryz.ntmps44
  go_wp2_with (go_at_call 73; refine (HL.out _).mono ?_; rintro e w' ⟨rfl, rfl⟩)
  refine (HD.out _).mono ?_
  rintro e w1 ⟨v1, rfl, ho1, hb1⟩
  go_wp2_with fail
  refine (HF.out _ _ (Reads.of_row ho1) (tab_below HT.out hb1)).mono ?_
  rintro e w2 ⟨rfl, hb2⟩
  go_wp2_with fail
  refine (HU.out _).mono ?_
  rintro e w3 ⟨rfl, hb3⟩
  have HB := hid (hb1.trans ((hb2.mono hb1.size).trans (hb3.mono (Nat.le_trans hb1.size hb2.size))))
  clear hb1 hb2 hb3 ho1
  go_wp2
  go_ret
  exact ⟨rfl, HB.out⟩
end Go.Proofs.YtkjdabnglcabiaaGreatDoor
/- The pieces from a cut on hang on the bytes from there on alone. -/
namespace Go.Proofs.YtkjdabnglcabiaaGreatDoor
open Go.RowKit
/-- The pieces that come of n bytes more, where the open piece began at f and k bytes have come. -/
def tp (s : ByteArray) : Nat → Nat → Nat → List ByteArray
 | 0, _, _ => []
 | n + 1, f, k => if endsB (s.extract f (k + 1)) || decide (k + 1 = s.size) then s.extract f (k + 1) :: tp s n (k + 1) (k + 1) else tp s n f (k + 1)
theorem tp_cut (s : ByteArray) (n f k : Nat) (h : (endsB (s.extract f (k + 1)) || decide (k + 1 = s.size)) = true) : tp s (n + 1) f k = s.extract f (k + 1) :: tp s n (k + 1) (k + 1) := by
 conv => lhs; unfold tp
 rw [h, if_pos rfl]
theorem tp_on (s : ByteArray) (n f k : Nat) (h : (endsB (s.extract f (k + 1)) || decide (k + 1 = s.size)) = false) : tp s (n + 1) f k = tp s n f (k + 1) := by
 conv => lhs; unfold tp
 rw [h, if_neg (by simp)]
theorem cutTo_tp (s : ByteArray) : ∀ (n k : Nat), (cutTo s (k + n)).2 = (cutTo s k).2 ++ tp s n (cutTo s k).1 k
 | 0, k => by simp [tp]
 | n + 1, k => by
  rw [show k + (n + 1) = (k + 1) + n by omega, cutTo_tp s n (k + 1)]
  cases h : (endsB (s.extract (cutTo s k).1 (k + 1)) || decide (k + 1 = s.size)) with
  | true => rw [cutTo_cut s k h, tp_cut s n _ k h]; simp
  | false => rw [cutTo_on s k h, tp_on s n _ k h]
theorem piecesOf_tp (s : ByteArray) (h : s.size ≤ 3000) : piecesOf s = tp s s.size 0 0 := by
 unfold piecesOf
 rw [if_neg (by omega)]
 have := cutTo_tp s s.size 0
 rw [Nat.zero_add] at this
 rw [this]; rfl
/-- The pieces of a text from f on. -/
def Pcs (s : ByteArray) : Nat → List ByteArray → Prop
 | f, [] => f = s.size
 | f, p :: r => p = s.extract f (f + p.size) ∧ 1 ≤ p.size ∧ p.size ≤ 64 ∧ f + p.size ≤ s.size ∧ (r ≠ [] → 8 ≤ p.size) ∧ r = tp s (s.size - (f + p.size)) (f + p.size) (f + p.size) ∧ Pcs s (f + p.size) r
theorem tp_pcs (s : ByteArray) : ∀ (n f k : Nat), f ≤ k → k + n = s.size → k - f ≤ 63 → (n = 0 → f = k) → Pcs s f (tp s n f k)
 | 0, f, k, _, hn, _, h0 => by unfold tp Pcs; have := h0 rfl; omega
 | n + 1, f, k, hf, hn, h63, _ => by
  unfold tp
  have hz : (s.extract f (k + 1)).size = k + 1 - f := by simp; omega
  cases h : (endsB (s.extract f (k + 1)) || decide (k + 1 = s.size)) with
  | true =>
   rw [if_pos rfl]
   unfold Pcs
   rw [hz, show f + (k + 1 - f) = k + 1 by omega]
   refine ⟨rfl, by omega, by omega, by omega, fun hr => ?_, ?_, tp_pcs s n (k + 1) (k + 1) (Nat.le_refl _) (by omega) (by omega) (fun _ => rfl)⟩
   ·have hn0 : n ≠ 0 := fun e => hr (by subst e; rfl)
    have hd : decide (k + 1 = s.size) = false := by simp; omega
    rw [hd, Bool.or_false] at h
    unfold endsB at h
    split at h
    ·cases h
    ·omega
   ·rw [show s.size - (k + 1) = n by omega]
  | false =>
   rw [if_neg (by simp)]
   simp only [Bool.or_eq_false_iff, decide_eq_false_iff_not] at h
   refine tp_pcs s n f (k + 1) (by omega) (by omega) ?_ (fun e => by omega)
   have h1 := h.1
   unfold endsB at h1
   rw [hz] at h1
   split at h1
   ·omega
   ·simp at h1; omega
theorem piecesOf_pcs (s : ByteArray) (h : s.size ≤ 3000) : Pcs s 0 (piecesOf s) := by
 rw [piecesOf_tp s h]; exact tp_pcs s s.size 0 0 (Nat.le_refl _) (by omega) (by omega) (fun e => rfl)
end Go.Proofs.YtkjdabnglcabiaaGreatDoor
/- What it is for texts to have one sum. -/
namespace Go.Proofs.YtkjdabnglcabiaaGreatDoor
open Go.RowKit
def tx (ts : List ByteArray) (i : Nat) : ByteArray := ts.getD i ByteArray.empty
def sumB (t : ByteArray) (n : Int) : ByteArray := ⟨(sumOf t.data.toList n).toArray⟩
/-- Texts i and j have one sum, and are different. -/
def clB (ts : List ByteArray) (n : Int) (i j : Nat) : Bool := ((sumB (tx ts i) n).toList == (sumB (tx ts j) n).toList) && !((tx ts i).toList == (tx ts j).toList)
def NoC (ts : List ByteArray) (n : Int) (J : Nat) : Prop := ∀ j, j < J → ∀ i, i < j → clB ts n i j = false
def ClRes (ts : List ByteArray) (n : Int) (x y : ByteArray) (b : Bool) : Prop :=
 (x = ⟨#[]⟩ ∧ y = ⟨#[]⟩ ∧ b = false ∧ (isW n = false ∨ 2000 < ts.length ∨ NoC ts n ts.length)) ∨
 (b = true ∧ isW n = true ∧ ts.length ≤ 2000 ∧ ∃ i j, i < j ∧ j < ts.length ∧ clB ts n i j = true ∧ NoC ts n j ∧ (∀ i', i' < i → clB ts n i' j = false) ∧ x = tx ts i ∧ y = tx ts j)
theorem ClRes.same {ts : List ByteArray} {n : Int} {x y x' y' : ByteArray} {b b' : Bool} (h : ClRes ts n x y b) (h' : ClRes ts n x' y' b') : x = x' ∧ y = y' ∧ b = b' := by
 rcases h with ⟨rfl, rfl, rfl, h1⟩ | ⟨rfl, hw, hl, i, j, hij, hj, hc, hn, hi, rfl, rfl⟩
 ·rcases h' with ⟨rfl, rfl, rfl, _⟩ | ⟨rfl, hw, hl, i, j, hij, hj, hc, hn, hi, rfl, rfl⟩
  ·exact ⟨rfl, rfl, rfl⟩
  ·rcases h1 with h1 | h1 | h1
   ·rw [hw] at h1; cases h1
   ·omega
   ·rw [h1 j hj i hij] at hc; cases hc
 ·rcases h' with ⟨rfl, rfl, rfl, h1⟩ | ⟨rfl, _, _, i2, j2, hij2, hj2, hc2, hn2, hi2, rfl, rfl⟩
  ·rcases h1 with h1 | h1 | h1
   ·rw [hw] at h1; cases h1
   ·omega
   ·rw [h1 j hj i hij] at hc; cases hc
  ·have ej : j = j2 := by
    rcases Nat.lt_trichotomy j j2 with h | h | h
    ·rw [hn2 j h i hij] at hc; cases hc
    ·exact h
    ·rw [hn j2 h i2 hij2] at hc2; cases hc2
   subst ej
   have ei : i = i2 := by
    rcases Nat.lt_trichotomy i i2 with h | h | h
    ·rw [hi2 i h] at hc; cases hc
    ·exact h
    ·rw [hi i2 h] at hc2; cases hc2
   subst ei
   exact ⟨rfl, rfl, rfl⟩
end Go.Proofs.YtkjdabnglcabiaaGreatDoor
/- Two different texts with one name show two different texts with one sum. -/
namespace Go.Proofs.YtkjdabnglcabiaaGreatDoor
open Go.RowKit
theorem pcs_text (s : ByteArray) : ∀ (ps : List ByteArray) (f : Nat), Pcs s f ps → s.data.toList.drop f = (ps.map fun p => p.data.toList).flatten
 | [], f, h => by
  unfold Pcs at h
  subst h
  have : s.size = s.data.toList.length := by
   show s.data.size = s.data.toList.length
   rw [Array.length_toList]
  rw [this, List.drop_length]
  rfl
 | p :: r, f, h => by
  unfold Pcs at h
  obtain ⟨hp, _, _, _, _, _, hr⟩ := h
  have ih := pcs_text s r _ hr
  have hp' : p.data.toList = (s.data.toList.drop f).take p.size := by
   have := congrArg (fun b : ByteArray => b.data.toList) hp
   simpa [ByteArray.data_extract, Array.toList_extract, List.extract] using this
  rw [List.map_cons, List.flatten_cons, ← ih, hp', ← List.drop_drop, List.take_append_drop]
theorem pcs_len (s : ByteArray) : ∀ (ps : List ByteArray) (f : Nat), Pcs s f ps → f ≤ s.size → 8 * ps.length ≤ s.size - f + 7
 | [], f, h, hf => by simp
 | p :: r, f, h, hf => by
  unfold Pcs at h
  obtain ⟨_, h1, _, hle, h8, _, hr⟩ := h
  have ih := pcs_len s r _ hr hle
  simp only [List.length_cons]
  by_cases e : r = []
  ·subst e; simp; omega
  ·have := h8 e; omega
theorem piecesOf_len375 (s : ByteArray) (h : s.size ≤ 3000) : (piecesOf s).length ≤ 375 := by
 have := pcs_len s _ 0 (piecesOf_pcs s h) (Nat.zero_le _)
 omega
theorem no_sep {A A' : List UInt8} : ∀ l l' : List UInt8, (∀ b ∈ l, b ≠ 10) → (∀ b ∈ l', b ≠ 10) → l ++ 10 :: A = l' ++ 10 :: A' → l = l' ∧ A = A'
 | [], [], _, _, h => by simpa using h
 | [], b :: l', _, h2, h => by simp at h; exact absurd h.1.symm (h2 b (by simp))
 | b :: l, [], h1, _, h => by simp at h; exact absurd h.1 (h1 b (by simp))
 | b :: l, b' :: l', h1, h2, h => by
  simp only [List.cons_append, List.cons.injEq] at h
  obtain ⟨rfl, h⟩ := h
  obtain ⟨e1, e2⟩ := no_sep l l' (fun x hx => h1 x (by simp [hx])) (fun x hx => h2 x (by simp [hx])) h
  exact ⟨by rw [e1], e2⟩
def valD (l : List UInt8) : Nat := l.foldl (fun v b => v * 10 + (b.toNat - 48)) 0
theorem dig_nat (j : Nat) (h : j < 10) : (UInt8.ofNat (48 + j)).toNat = 48 + j := by
 rw [UInt8.toNat_ofNat']; omega
theorem valD_dec : ∀ f n : Nat, n ≤ f → valD (Lib.decDigits n) = n ∧ ∀ b ∈ Lib.decDigits n, b ≠ 10
 | f, n, h => by
  by_cases h10 : n < 10
  ·rw [Lib.decDigits, dif_pos h10]
   have e := dig_nat n h10
   refine ⟨by simp only [valD, List.foldl_cons, List.foldl_nil]; rw [e]; omega, fun b hb => ?_⟩
   simp only [List.mem_cons, List.not_mem_nil, or_false] at hb
   intro hb'
   rw [hb'] at hb
   rw [← hb] at e
   have : (10 : UInt8).toNat = 10 := rfl
   omega
  ·rw [Lib.decDigits, dif_neg h10]
   cases f with
   | zero => omega
   | succ f =>
   obtain ⟨ih, ih2⟩ := valD_dec f (n / 10) (by omega)
   have e := dig_nat (n % 10) (by omega)
   refine ⟨?_, fun b hb => ?_⟩
   ·unfold valD at ih ⊢
    rw [List.foldl_append, ih]
    simp only [List.foldl_cons, List.foldl_nil]
    rw [e]; omega
   ·rcases List.mem_append.1 hb with hb | hb
    ·exact ih2 b hb
    ·simp only [List.mem_cons, List.not_mem_nil, or_false] at hb
     intro hb'
     rw [hb'] at hb
     rw [← hb] at e
     have : (10 : UInt8).toNat = 10 := rfl
     omega
theorem hx_inj : ∀ i : Fin 16, ∀ j : Fin 16, hx i.val = hx j.val → i = j := by decide
theorem hx_no : ∀ i : Fin 16, hx i.val ≠ 10 := by decide
theorem hexL_no (l : List UInt8) : ∀ b ∈ hexL l, b ≠ 10 := by
 intro b hb
 unfold hexL at hb
 obtain ⟨c, _, hc⟩ := List.mem_flatMap.1 hb
 have hc256 := c.toNat_lt
 simp only [List.mem_cons, List.not_mem_nil, or_false] at hc
 rcases hc with rfl | rfl
 ·exact hx_no ⟨c.toNat / 16, by omega⟩
 ·exact hx_no ⟨c.toNat % 16, by omega⟩
theorem hexL_inj : ∀ l l' : List UInt8, hexL l = hexL l' → l = l'
 | [], [], _ => rfl
 | [], b :: l', h => by simp [hexL] at h
 | b :: l, [], h => by simp [hexL] at h
 | b :: l, c :: l', h => by
  have e : ∀ (x : UInt8) (t : List UInt8), hexL (x :: t) = hx (x.toNat / 16) :: hx (x.toNat % 16) :: hexL t := fun x t => by simp [hexL]
  rw [e, e] at h
  simp only [List.cons.injEq] at h
  obtain ⟨h1, h2, h3⟩ := h
  have hb := b.toNat_lt
  have hc := c.toNat_lt
  have g1 := Fin.mk.inj (hx_inj ⟨b.toNat / 16, by omega⟩ ⟨c.toNat / 16, by omega⟩ h1)
  have g2 := Fin.mk.inj (hx_inj ⟨b.toNat % 16, by omega⟩ ⟨c.toNat % 16, by omega⟩ h2)
  have : b = c := UInt8.toNat_inj.1 (by omega)
  rw [this, hexL_inj l l' h3]
theorem rowsL_inj : ∀ ss ss' : List ByteArray, rowsL ss = rowsL ss' → ss = ss'
 | [], [], _ => rfl
 | [], b :: l', h => by simp [rowsL] at h
 | b :: l, [], h => by simp [rowsL] at h
 | b :: l, c :: l', h => by
  have e : ∀ (x : ByteArray) (t : List ByteArray), rowsL (x :: t) = hexL x.data.toList ++ 10 :: rowsL t := fun x t => by simp [rowsL]
  rw [e, e] at h
  obtain ⟨h1, h2⟩ := no_sep _ _ (hexL_no _) (hexL_no _) h
  have h3 := hexL_inj _ _ h1
  have : b = c := by
   rcases b with ⟨⟨b⟩⟩
   rcases c with ⟨⟨c⟩⟩
   simp at h3
   rw [h3]
  rw [this, rowsL_inj l l' h2]
theorem formL_inj {n n' : Nat} {ss ss' : List ByteArray} (h : formL n ss = formL n' ss') : n = n' ∧ ss = ss' := by
 unfold formL headL at h
 simp only [List.append_assoc, List.append_cancel_left_eq, List.singleton_append] at h
 have d := valD_dec n n (Nat.le_refl _)
 have d' := valD_dec n' n' (Nat.le_refl _)
 obtain ⟨h1, h2⟩ := no_sep _ _ d.2 d'.2 h
 exact ⟨by rw [← d.1, ← d'.1, h1], rowsL_inj _ _ h2⟩
theorem sumT_exact {m : Int} (h : isW m = true) (p : ByteArray) : ((sumT m p).size : Int) = m := by
 show ((sumOf p.data.toList m).toArray.size : Int) = m
 rw [List.size_toArray]
 unfold sumOf
 rw [if_pos h, lowB_length]
 simp [isW] at h
 omega
theorem desc_ok {s : ByteArray} {m : Int} (hw : isW m = true) (hs : s.size ≤ 3000) : okL (descN s m) (descS s m) m = true := by
 have hh : hasL s m = true := by simp [hasL, hw, hs]
 unfold okL descN descS
 rw [hh, hw]
 simp only [if_true, Bool.true_and, Bool.and_eq_true, decide_eq_true_eq, List.length_map, List.all_eq_true]
 refine ⟨by omega, piecesOf_len375 s hs, fun x hx => ?_⟩
 obtain ⟨p, _, rfl⟩ := List.mem_map.1 hx
 exact sumT_exact hw p
end Go.Proofs.YtkjdabnglcabiaaGreatDoor
