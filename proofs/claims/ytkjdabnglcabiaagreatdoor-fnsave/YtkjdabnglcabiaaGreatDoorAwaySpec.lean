/- spec.l4Away: the item that goes first is given away. -/
import Derived.Test.YtkjdabnglcabiaaGreatDoorShort
import Derived.Test.YtkjdabnglcabiaaGreatDoorPutImpl
import Derived.Test.YtkjdabnglcabiaaGreatDoorInList
namespace Go.Proofs.YtkjdabnglcabiaaGreatDoor
open Go.RowKit
/-- What goes first among the first items. -/
def BestR (wd : Int) (its : Itms) (nd : List ByteArray) (k : Nat) (r : Int) : Prop :=
 (r = -1 ∧ ∀ j, j < k → sumX wd (itx its j) ∈ nd) ∨ (∃ b : Nat, r = b ∧ b < k ∧ sumX wd (itx its b) ∉ nd ∧ ∀ j, j < k → sumX wd (itx its j) ∉ nd → lfB (lvAt wd its j) (lvAt wd its b) = false)
theorem BestR.skip {wd : Int} {its : Itms} {nd : List ByteArray} {k : Nat} {r : Int} (h : BestR wd its nd k r) (hk : sumX wd (itx its k) ∈ nd) : BestR wd its nd (k + 1) r := by
 rcases h with ⟨h1, h2⟩ | ⟨b, h1, h2, h3, h4⟩
 ·exact .inl ⟨h1, fun j hj => (Nat.lt_or_eq_of_le (Nat.le_of_lt_succ hj)).elim (h2 j) (fun e => e ▸ hk)⟩
 ·exact .inr ⟨b, h1, by omega, h3, fun j hj hn => (Nat.lt_or_eq_of_le (Nat.le_of_lt_succ hj)).elim (fun h => h4 j h hn) (fun e => absurd (e ▸ hk) hn)⟩
theorem BestR.first {wd : Int} {its : Itms} {nd : List ByteArray} {k : Nat} (h : BestR wd its nd k (-1)) (hk : sumX wd (itx its k) ∉ nd) : BestR wd its nd (k + 1) k := by
 rcases h with ⟨_, h2⟩ | ⟨b, h1, _⟩
 ·refine .inr ⟨k, rfl, by omega, hk, fun j hj hn => ?_⟩
  rcases Nat.lt_or_eq_of_le (Nat.le_of_lt_succ hj) with h | h
  ·exact absurd (h2 j h) hn
  ·subst h; exact lfB_irr _
 ·omega
theorem BestR.less {wd : Int} {its : Itms} {nd : List ByteArray} {k b : Nat} (h : BestR wd its nd k b) (hk : sumX wd (itx its k) ∉ nd) (hu : itu its k < itu its b) : BestR wd its nd (k + 1) k := by
 rcases h with ⟨h1, _⟩ | ⟨b', h1, h2, h3, h4⟩
 ·omega
 ·obtain rfl : b = b' := by omega
  refine .inr ⟨k, rfl, by omega, hk, fun j hj hn => ?_⟩
  rcases Nat.lt_or_eq_of_le (Nat.le_of_lt_succ hj) with h | h
  ·rcases (lfB_not _ _).1 (h4 j h hn) with e | ⟨e, _⟩
   ·have e' : itu its b < itu its j := e
    exact (lfB_not _ _).2 (.inl (show itu its k < itu its j by omega))
   ·have e' : itu its j = itu its b := e
    exact (lfB_not _ _).2 (.inl (show itu its k < itu its j by omega))
  ·subst h; exact lfB_irr _
theorem BestR.stay {wd : Int} {its : Itms} {nd : List ByteArray} {k b : Nat} (hA : AscI wd its) (hkl : k < its.length) (h : BestR wd its nd k b) (hu : ¬ itu its k < itu its b) : BestR wd its nd (k + 1) b := by
 rcases h with ⟨h1, _⟩ | ⟨b', h1, h2, h3, h4⟩
 ·omega
 ·obtain rfl : b = b' := by omega
  refine .inr ⟨b, rfl, by omega, h3, fun j hj hn => ?_⟩
  rcases Nat.lt_or_eq_of_le (Nat.le_of_lt_succ hj) with h | h
  ·exact h4 j h hn
  ·subst h
   rw [lfB_not]
   by_cases e : itu its b < itu its j
   ·exact .inl e
   ·refine .inr ⟨show itu its j = itu its b by omega, ?_⟩
    show tlt (sumX wd (itx its j)) (sumX wd (itx its b)) = false
    have := List.pairwise_iff_getElem.1 hA b j (by simp; omega) (by simp; omega) h2
    simp only [List.getElem_map] at this
    rw [← itx_get its b (by omega), ← itx_get its j hkl] at this
    exact tlt_as this
theorem BestR.done {wd : Int} {its : Itms} {nd : List ByteArray} {b : Nat} (h : BestR wd its nd its.length b) : LeastAway wd (· ∈ nd) its b := by
 rcases h with ⟨h1, _⟩ | ⟨b', h1, h2, h3, h4⟩
 ·omega
 ·obtain rfl : b = b' := by omega
  exact ⟨h2, h3, h4⟩
theorem addr_add' (g f j : Nat) : (⟨g, f, none⟩ : Addr).add j = ⟨g, f + j, none⟩ := by simp [Addr.add]
theorem cellsI_erase : ∀ (its : Itms) (b : Nat), b < its.length → cellsI (its.eraseIdx b) = [] ++ (cellsI its).take (b * 2) ++ (cellsI its).drop ((b + 1) * 2)
 | [], _, h => absurd h (by simp)
 | p :: r, 0, _ => by simp [cellsI]
 | p :: r, b + 1, h => by
  have ih := cellsI_erase r b (by simpa using h)
  have e1 : (b + 1) * 2 = b * 2 + 2 := by omega
  have e2 : (b + 1 + 1) * 2 = (b + 1) * 2 + 2 := by omega
  have e3 : cellsI (p :: r) = .string p.1 :: .int .i64 p.2 :: cellsI r := rfl
  have e4 : cellsI ((p :: r).eraseIdx (b + 1)) = .string p.1 :: .int .i64 p.2 :: cellsI (r.eraseIdx b) := rfl
  rw [e4, e3, ih, e2, e1]
  simp
/-- What l4Away answers. -/
def AwayR (wd room : Int) (vi vp : Value) (its : Itms) (nd : List ByteArray) (w : World) (e : Ending) (w' : World) : Prop :=
 ((∀ i, i < its.length → sumX wd (itx its i) ∈ nd) ∧ e = .returned (.tuple #[.agg #[.int .i64 wd, .int .i64 room, vi, vp], .bool false]) ∧ Below w.heap.size w w') ∨
 (∃ i vi', LeastAway wd (· ∈ nd) its i ∧ e = .returned (.tuple #[.agg #[.int .i64 wd, .int .i64 room, vi', vp], .bool true]) ∧ w'.ownsRow w.heap.size 59 2 vi' (its.eraseIdx i).length (cellsI (its.eraseIdx i)) ∧ Below w.heap.size w w')
theorem row_cellI {w : World} {B g n cap : Nat} {its : Itms} (h : w.ownsRow B 59 2 (.slice (some ⟨g, 0, none⟩) n cap) its.length (cellsI its)) (i : Nat) (hi : i < its.length) : w.cell? ⟨g, i * 2, none⟩ = some (.string (itx its i)) ∧ w.cell? ⟨g, i * 2 + 1, none⟩ = some (.int .i64 (itu its i)) := by
 obtain ⟨c0, c1⟩ := cellsI_at its i hi
 have e : ∀ j, (⟨g, 0, none⟩ : Addr).add j = ⟨g, j, none⟩ := fun j => by simp [Addr.add]; intro h; exact h.symm
 have k := World.ownsRow.cells h (g := g) rfl
 refine ⟨?_, ?_⟩
 ·rw [← e]; exact k _ _ c0
 ·rw [← e]; exact k _ _ c1
set_option maxRecDepth 100000 in
set_option maxHeartbeats 16000000 in
theorem l4Away_some (wd room : Int) (g cap : Nat) (ap : Option Addr) (cp : Nat) (vn : Value) (its : Itms) (ts nd : List ByteArray) (b1 : Nat) (w : World) (hi : w.ownsRow b1 59 2 (.slice (some ⟨g, 0, none⟩) its.length cap) its.length (cellsI its)) (hn : Reads w vn nd) (hnl : nd.length ≤ 1048576) (hA : AscI wd its) (hli : its.length ≤ 1000) (hsi : ∀ i, (itx its i).size ≤ 1048576) :
  Calls Tryz.prog 58 #[.agg #[.int .i64 wd, .int .i64 room, .slice (some ⟨g, 0, none⟩) its.length cap, .slice ap ts.length cp], vn] w (AwayR wd room (.slice (some ⟨g, 0, none⟩) its.length cap) (.slice ap ts.length cp) its nd w) := by
 have hB0 := ((Below.refl w.heap.size w).alloc (Nat.le_refl _) (.cells #[.int .i64 wd, .int .i64 room, .slice (some ⟨g, 0, none⟩) its.length cap, .slice ap ts.length cp] 26)).alloc (by simp) (.cells #[.int .i64 0, .int .i64 0, .slice none 0 0, .slice none 0 0] 26)
 have N0 := (Blk.new w 26 #[.int .i64 wd, .int .i64 room, .slice (some ⟨g, 0, none⟩) its.length cap, .slice ap ts.length cp]).alloc (.cells #[.int .i64 0, .int .i64 0, .slice none 0 0, .slice none 0 0] 26)
 have N1 := Blk.new (w.alloc (.cells #[.int .i64 wd, .int .i64 room, .slice (some ⟨g, 0, none⟩) its.length cap, .slice ap ts.length cp] 26)) 26 #[.int .i64 0, .int .i64 0, .slice none 0 0, .slice none 0 0]
 rw [World.size_alloc] at N1
 have HR := hid hi
 have HND := hid hn
 have HA := hid hA
 have HSI := hid hsi
 have HB0 := hid hB0
 have HN0 := hid N0
 have HN1 := hid N1
 have hgw : g < w.heap.size := (hi.lt g rfl).2
 obtain ⟨w2, hw2⟩ : ∃ x, x = (w.alloc (.cells #[.int .i64 wd, .int .i64 room, .slice (some ⟨g, 0, none⟩) its.length cap, .slice ap ts.length cp] 26)).alloc (.cells #[.int .i64 0, .int .i64 0, .slice none 0 0, .slice none 0 0] 26) := ⟨_, rfl⟩
 rw [← hw2] at HB0 HN0 HN1
 have hs2 : w.heap.size + 2 ≤ w2.heap.size := by rw [hw2, World.size_alloc, World.size_alloc]; omega
 obtain ⟨an, cn, rfl, _⟩ := hn.form
 clear hi hn hA hsi hB0 N0 N1
 go_enter Tryz.func58, Tryz.ntmps58
 go_wp2
 rw [← hw2]
 clear hw2
 go_loopw [6, 7] (fun bv iv wr => ∃ (k : Nat) (r : Int), bv = .int .i64 r ∧ iv = .int .i64 k ∧ k ≤ its.length ∧ -1 ≤ r ∧ r < 1000 ∧ BestR wd its nd k r ∧ Below w2.heap.size w2 wr) (fun _ iv _ => its.length - (intOf iv).toNat)
 case atStart => exact ⟨0, -1, rfl, rfl, Nat.zero_le _, by omega, by omega, .inl ⟨rfl, fun j hj => absurd hj (by omega)⟩, Below.refl _ _⟩
 case round =>
  obtain ⟨k, r, rfl, rfl, hk, hr0, hr1, hbest, hbw⟩ := hrel
  have HBE := hid hbest
  have HBW := hid hbw
  have B1 := HB0.out.trans (hbw.mono HB0.out.size)
  have X := HN0.out.below hbw
  have HX := hid X
  have R := HR.out.kept (grown_of_below B1) (.inr (fun e => by cases e))
  have HRR := hid R
  have HB1 := hid B1
  have x2 : wr.cell? ⟨w.heap.size, 2, none⟩ = some (.slice (some ⟨g, 0, none⟩) its.length cap) := X.cell 2
  have x0 : wr.cell? ⟨w.heap.size, 0, none⟩ = some (.int .i64 wd) := X.cell 0
  have hsr := hbw.size
  clear hbest hbw B1 X
  by_cases hlt : k < its.length
  case neg =>
   obtain rfl : k = its.length := by omega
   clear R x0
   have N1 := HN1.out.below HBW.out
   have hcap : its.length ≤ cap := by
    obtain ⟨_, ⟨e, _⟩ | ⟨g', cap', cur, e1, _, _, e4, _⟩⟩ := HRR.out
    ·cases e
    ·have := (Value.slice.inj e1).2.2
     omega
   by_cases hr : r = -1
   ·subst hr
    have HNO : Hid (∀ i, i < its.length → sumX wd (itx its i) ∈ nd) := hid (by
     rcases HBE.out with ⟨_, h⟩ | ⟨b, h, _⟩
     ·exact h
     ·omega)
    have x0 : wr.cell? ⟨w.heap.size, 0, none⟩ = some (.int .i64 wd) := HX.out.cell 0
    have x1 : wr.cell? ⟨w.heap.size, 1, none⟩ = some (.int .i64 room) := HX.out.cell 1
    have x3 : wr.cell? ⟨w.heap.size, 3, none⟩ = some (.slice ap ts.length cp) := HX.out.cell 3
    have s9 := N1.store4 (.int .i64 wd) (.int .i64 room) (.slice (some ⟨g, 0, none⟩) its.length cap) (.slice ap ts.length cp)
    have s0 := s9.a0; have s1 := s9.a1; have s2 := s9.a2; have s3 := s9.a3
    have k0 := s9.f0; have k1 := s9.f1; have k2 := s9.f2; have k3 := s9.f3
    have ZZ := hid s9.z
    have BB := hid ((((HB1.out.setCell (p := ⟨w.heap.size + 1, 0, none⟩) (by simp) (.int .i64 wd)).setCell (p := ⟨w.heap.size + 1, 1, none⟩) (by simp) (.int .i64 room)).setCell (p := ⟨w.heap.size + 1, 2, none⟩) (by simp) (.slice (some ⟨g, 0, none⟩) its.length cap)).setCell (p := ⟨w.heap.size + 1, 3, none⟩) (by simp) (.slice ap ts.length cp))
    clear s9 N1
    go_wp2
    exact bodyPost_ret (v := .tuple #[.agg #[.int .i64 wd, .int .i64 room, .slice (some ⟨g, 0, none⟩) its.length cap, .slice ap ts.length cp], .bool false]) (by simp [results, Tryz.results58, go_sem, ZZ.out.cell]) rfl (.inl ⟨HNO.out, rfl, BB.out⟩)
   ·obtain ⟨b, rfl⟩ : ∃ b : Nat, r = b := ⟨r.toNat, by omega⟩
    have hle := HBE.out.done
    have hbl : b < its.length := hle.lt
    have HLE := hid hle
    have HN1R := hid N1
    obtain ⟨o, ho, hoc⟩ : ∃ o, (if cap = b + 1 then some (⟨g, 0, none⟩ : Addr) else some ⟨g, (b + 1) * 2, none⟩) = some ⟨g, o, none⟩ ∧ (cap = b + 1 ∨ o = (b + 1) * 2) := by
     by_cases e : cap = b + 1
     ·exact ⟨0, by rw [if_pos e], .inl e⟩
     ·exact ⟨(b + 1) * 2, by rw [if_neg e], .inr rfl⟩
    have HOC := hid hoc
    have hb0 : ¬ ((b : Int) < 0) := by omega
    have hbc : b ≤ cap := by omega
    have hbc1 : b + 1 ≤ cap := by omega
    have hS0 : wr.drew.cell? ⟨w.heap.size, 2, none⟩ = some (.slice (some ⟨g, 0, none⟩) its.length cap) := x2
    clear hle hoc N1
    go_wp2_with fail
    refine wp_region_last 13 (S := fun w' => w'.cell? ⟨w.heap.size, 2, none⟩ = some (.slice (some ⟨g, 0, none⟩) its.length cap)) (by kernel_rfl) ?_
    change wpAnyC _ _ _ _ _ _ _ _ _ (World.drew _)
    refine tkL 1 (.pointer (some ⟨w.heap.size, 2, none⟩)) rfl hS0 ?_
    refine tkL 2 (.slice (some ⟨g, 0, none⟩) its.length cap) rfl hS0 ?_
    refine tkL 3 (.int .i64 (b : Nat)) rfl hS0 ?_
    refine tkL 4 (.slice (some ⟨g, 0, none⟩) b cap) rfl hS0 ?_
    refine tkL 6 (.pointer (some ⟨w.heap.size, 2, none⟩)) rfl hS0 ?_
    refine tkL 7 (.slice (some ⟨g, 0, none⟩) its.length cap) rfl hS0 ?_
    refine tkL 8 (.int .i64 (b : Nat)) rfl hS0 ?_
    refine lastH_take (i := 9) (v := .int .i64 ((b : Int) + 1)) 16 rfl (by kernel_rfl) (by kernel_rfl) (by kernel_rfl) (by kernel_rfl) (fun _ _ _ h => h) (.inl ⟨rfl, fun w' hS => by first | (go_simp; done) | (go_simp; rw [IntKind.wrap_i64]; omega)⟩) hS0 ?_
    refine lastH_take (i := 10) (v := .slice (some ⟨g, o, none⟩) (its.length - (b + 1)) (cap - (b + 1))) 16 rfl (by kernel_rfl) (by kernel_rfl) (by kernel_rfl) (by kernel_rfl) (fun _ _ _ h => h) (.inl ⟨rfl, fun w' hS => by go_simp; intro h; exfalso; have h2 := h (by omega); omega⟩) hS0 ?_
    have hA1 : Below wr.heap.size wr (wr.drew.alloc (.cells #[] 59)) := (below_drewN (Below.refl _ _) 1).alloc (Nat.le_refl _) (.cells #[] 59)
    have hS1 : (wr.drew.alloc (.cells #[] 59)).cell? ⟨w.heap.size, 2, none⟩ = some (.slice (some ⟨g, 0, none⟩) its.length cap) := (HX.out.below hA1).cell 2
    have hO : (wr.drew.alloc (.cells #[] 59)).ownsRow wr.heap.size 59 2 (.slice (some ⟨wr.heap.size, 0, none⟩) 0 0) 0 [] := World.ownsRow_made (base := wr.heap.size) (e := 59) (size := 2) wr.drew #[] 0 (Nat.le_refl _) (by simp [maxLen]) rfl
    obtain ⟨i0, hi0, hz0, hz1, hz2⟩ := info_parts Tryz.infoItem
    have HC1 : Hid (∀ j u, ((cellsI its).take (b * 2))[j]? = some u → (wr.drew.alloc (.cells #[] 59)).cell? ((⟨g, 0, none⟩ : Addr).add j) = some u) := hid fun j u hj => by
     have hj' : (cellsI its)[j]? = some u := by
      rw [List.getElem?_take] at hj
      split at hj
      ·exact hj
      ·cases hj
     exact World.ownsRow.cells (HRR.out.kept (grown_of_below hA1) (.inr (fun e => by cases e))) (g := g) rfl j u hj'
    have HA1 := hid hA1
    have hgr : g < wr.heap.size := by omega
    clear hA1
    refine last_one 0 (by kernel_rfl) (op_value (v := .slice (some ⟨wr.heap.size, 0, none⟩) 0 0) (w' := wr.drew.alloc (.cells #[] 59)) rfl rfl (by go_simp) ⟨fun _ => hS1, ?_⟩)
    refine last_one 5 (by kernel_rfl) (op_wp rfl rfl (wp_append_own _ (.tmp 50) (.tmp 54) 23 rfl wr.heap.size 59 i0 (.agg #[.string ⟨#[]⟩, .int .i64 0]) 2 24 Tryz.underlying23 hi0 hz0 hz1 hz2 rfl (by decide) (.slice (some ⟨wr.heap.size, 0, none⟩) 0 0) 0 [] (by go_simp) hO ⟨g, 0, none⟩ b cap ((cellsI its).take (b * 2)) (by go_simp) (by rw [List.length_take, cellsI_len]; omega) HC1.out (fun u hu => cellsI_one its u (List.mem_of_mem_take hu)) (by unfold maxLen; omega) (by omega) (by simp) ?_))
    intro v3 w3 hown3 hgrow3 _
    have B3 : Below wr.heap.size wr w3 := HA1.out.trans ((Below.refl wr.heap.size _).grown hgrow3 (by rw [World.size_alloc]; exact Nat.le_succ _) (fun q e => by have := (hO.lt q e).1; exact this))
    have hS3 : w3.cell? ⟨w.heap.size, 2, none⟩ = some (.slice (some ⟨g, 0, none⟩) its.length cap) := (HX.out.below B3).cell 2
    have HC3 : Hid (∀ j u, ((cellsI its).drop ((b + 1) * 2))[j]? = some u → w3.cell? ((⟨g, o, none⟩ : Addr).add j) = some u) := hid fun j u hj => by
     have hl : j < its.length * 2 - (b + 1) * 2 := by
      have := (List.getElem?_eq_some_iff.1 hj).1
      rw [List.length_drop, cellsI_len] at this
      exact this
     have e : o = (b + 1) * 2 := HOC.out.elim (fun h => by omega) id
     rw [List.getElem?_drop] at hj
     have h := World.ownsRow.cells (HRR.out.kept (grown_of_below B3) (.inr (fun e => by cases e))) (g := g) rfl _ u hj
     have e2 : (⟨g, o, none⟩ : Addr).add j = (⟨g, 0, none⟩ : Addr).add ((b + 1) * 2 + j) := by rw [addr_add', addr_add', e]; simp
     rw [e2]
     exact h
    have HB3 := hid B3
    have hs3 := B3.size
    obtain ⟨a3, c3, rfl⟩ := row_any hown3
    clear B3 hgrow3 hO hS1 hS0 HC1
    refine ⟨fun _ => hS3, ?_⟩
    refine last_one 11 (by kernel_rfl) (op_wp rfl rfl (wp_append_own _ (.tmp 55) (.tmp 60) 23 rfl wr.heap.size 59 i0 (.agg #[.string ⟨#[]⟩, .int .i64 0]) 2 24 Tryz.underlying23 hi0 hz0 hz1 hz2 rfl (by decide) (.slice a3 (0 + b) c3) (0 + b) _ (by go_simp) hown3 ⟨g, o, none⟩ (its.length - (b + 1)) (cap - (b + 1)) ((cellsI its).drop ((b + 1) * 2)) (by go_simp) (by rw [List.length_drop, cellsI_len]; omega) HC3.out (fun u hu => cellsI_one its u (List.mem_of_mem_drop hu)) (by unfold maxLen; omega) (by omega) hs3 ?_))
    intro v4 w4 hown4 hgrow4 _
    have B4 : Below wr.heap.size wr w4 := HB3.out.trans ((Below.refl wr.heap.size w3).grown hgrow4 hs3 (fun q e => (hown3.lt q e).1))
    have X4 := HX.out.below B4
    have hS4 : w4.cell? ⟨w.heap.size, 2, none⟩ = some (.slice (some ⟨g, 0, none⟩) its.length cap) := X4.cell 2
    have hrow4 : w4.ownsRow wr.heap.size 59 2 v4 (its.eraseIdx b).length (cellsI (its.eraseIdx b)) := by
     have e1 : (its.eraseIdx b).length = 0 + b + (its.length - (b + 1)) := by rw [List.length_eraseIdx_of_lt hbl]; omega
     have e2 : cellsI (its.eraseIdx b) = [] ++ (cellsI its).take (b * 2) ++ (cellsI its).drop ((b + 1) * 2) := cellsI_erase its b hbl
     rw [e1, e2]
     exact hown4
    obtain ⟨a4, c4, rfl⟩ := row_any hrow4
    refine ⟨fun _ => hS4, ?_⟩
    refine tkL 12 (.pointer (some ⟨w.heap.size, 2, none⟩)) rfl hS4 ?_
    have f4 := X4.fz 2
    have X5 : Blk (w4.setCell ⟨w.heap.size, 2, none⟩ (.slice a4 (its.eraseIdx b).length c4)) w.heap.size 26 #[.int .i64 wd, .int .i64 room, .slice a4 (its.eraseIdx b).length c4, .slice ap ts.length cp] := X4.set 2 (.slice a4 (its.eraseIdx b).length c4)
    have G5 := grownBy_setCellAt w4 w.heap.size 2 (.slice a4 (its.eraseIdx b).length c4)
    have R5 := hrow4.kept G5 (.inr fun e => by have := (hrow4.lt _ e).1; omega)
    have N5 := (HN1R.out.below B4).kept G5 (fun e => by have e' : w.heap.size + 1 = w.heap.size := Option.some.inj e; omega)
    have B5 := (HB1.out.trans (B4.mono HB1.out.size)).setCell (p := ⟨w.heap.size, 2, none⟩) (Nat.le_refl _) (.slice a4 (its.eraseIdx b).length c4)
    refine last_one 13 (by kernel_rfl) (op_skip (w' := w4.setCell ⟨w.heap.size, 2, none⟩ (.slice a4 (its.eraseIdx b).length c4)) rfl rfl (by go_simp) ⟨fun h => absurd rfl h, last_done (by kernel_rfl) ?_ _⟩)
    generalize w4.setCell ⟨w.heap.size, 2, none⟩ (.slice a4 (its.eraseIdx b).length c4) = w5 at X5 R5 N5 B5 ⊢
    clear G5 X4 B4 hS4 hS3 hown3 hown4 hgrow4 hrow4 f4 HC3 x2
    have x0 : w5.cell? ⟨w.heap.size, 0, none⟩ = some (.int .i64 wd) := X5.cell 0
    have x1 : w5.cell? ⟨w.heap.size, 1, none⟩ = some (.int .i64 room) := X5.cell 1
    have x2 : w5.cell? ⟨w.heap.size, 2, none⟩ = some (.slice a4 (its.eraseIdx b).length c4) := X5.cell 2
    have x3 : w5.cell? ⟨w.heap.size, 3, none⟩ = some (.slice ap ts.length cp) := X5.cell 3
    have s9 := N5.store4 (.int .i64 wd) (.int .i64 room) (.slice a4 (its.eraseIdx b).length c4) (.slice ap ts.length cp)
    have s0 := s9.a0; have s1 := s9.a1; have s2 := s9.a2; have s3 := s9.a3
    have k0 := s9.f0; have k1 := s9.f1; have k2 := s9.f2; have k3 := s9.f3
    have ZZ := hid s9.z
    have BB := hid ((((B5.setCell (p := ⟨w.heap.size + 1, 0, none⟩) (by simp) (.int .i64 wd)).setCell (p := ⟨w.heap.size + 1, 1, none⟩) (by simp) (.int .i64 room)).setCell (p := ⟨w.heap.size + 1, 2, none⟩) (by simp) (.slice a4 (its.eraseIdx b).length c4)).setCell (p := ⟨w.heap.size + 1, 3, none⟩) (by simp) (.slice ap ts.length cp))
    have GG := fun (x : World) (j : Nat) (y : Value) => grownBy_setCellAt x (w.heap.size + 1) j y
    have hne : ∀ q, (Value.slice a4 (its.eraseIdx b).length c4).ownBlock = some q → ¬ q = w.heap.size + 1 := fun q e => by have := (R5.lt q e).1; omega
    have RR := hid (((((R5.kept (GG _ 0 (.int .i64 wd)) (.inr fun e => hne _ e rfl)).kept (GG _ 1 (.int .i64 room)) (.inr fun e => hne _ e rfl)).kept (GG _ 2 (.slice a4 (its.eraseIdx b).length c4)) (.inr fun e => hne _ e rfl)).kept (GG _ 3 (.slice ap ts.length cp)) (.inr fun e => hne _ e rfl)))
    clear s9 N5 X5 R5 B5 GG hne
    go_simp
    go_wp2
    exact bodyPost_ret (v := .tuple #[.agg #[.int .i64 wd, .int .i64 room, .slice a4 (its.eraseIdx b).length c4, .slice ap ts.length cp], .bool true]) (by simp [results, Tryz.results58, go_sem, ZZ.out.cell]) rfl (.inr ⟨b, _, HLE.out, rfl, ownsRow_base2 RR.out (by omega), BB.out⟩)
  obtain ⟨ck0, ck1⟩ := row_cellI R k hlt
  obtain ⟨tk, htk⟩ : ∃ x, itx its k = x := ⟨_, rfl⟩
  obtain ⟨uk, huk⟩ : ∃ x, itu its k = x := ⟨_, rfl⟩
  rw [htk] at ck0
  rw [huk] at ck1
  have HTK := hid htk
  have HUK := hid huk
  have hts := HSI.out k
  rw [htk] at hts
  have HSU : Hid (Calls Tryz.prog 30 #[.string tk, .int .i64 wd] wr.drew fun e w' => e = .returned (.string (sumX wd tk)) ∧ Below wr.drew.heap.size wr.drew w') := hid (specSum_any tk wd wr.drew (by unfold maxLen; omega))
  have HIN := hid fun (W : World) (h : Below wr.heap.size wr W) => l2In_in (.slice an nd.length cn) nd (sumX wd tk) W (HND.out.below (HB1.out.trans (h.mono HB1.out.size))) (by unfold maxLen; omega)
  have HF1 := hid fun (W : World) (h : Below wr.heap.size wr W) => (show W.cell? ⟨w.heap.size, 2, none⟩ = some (.slice (some ⟨g, 0, none⟩) its.length cap) ∧ W.cell? ⟨w.heap.size, 0, none⟩ = some (.int .i64 wd) ∧ W.cell? ⟨g, k * 2, none⟩ = some (.string tk) ∧ W.cell? ⟨g, k * 2 + 1, none⟩ = some (.int .i64 uk) from by
   have X := HX.out.below h
   have R := HRR.out.kept (grown_of_below h) (.inr (fun e => by cases e))
   obtain ⟨a, b⟩ := row_cellI R k hlt
   rw [HTK.out] at a
   rw [HUK.out] at b
   exact ⟨X.cell 2, X.cell 0, a, b⟩)
  clear R htk huk ck0 ck1 x0
  have hec := enters_of Tryz.func30 (by kernel_rfl) rfl
  have hec2 := enters_of Tryz.func83 (by kernel_rfl) rfl
  have hbd : Below wr.heap.size wr wr.drew := below_drewN (Below.refl _ _) 1
  cases hmem : inB nd (sumX wd tk) with
  | true =>
   have HNX := hid (HBE.out.skip (by rw [HTK.out]; exact (inB_iff nd _).1 hmem))
   have hS0 := HF1.out wr.drew hbd
   go_wp2_with fail
   refine wp_region_held (S := fun w' => w'.cell? ⟨w.heap.size, 2, none⟩ = some (.slice (some ⟨g, 0, none⟩) its.length cap) ∧ w'.cell? ⟨w.heap.size, 0, none⟩ = some (.int .i64 wd) ∧ w'.cell? ⟨g, k * 2, none⟩ = some (.string tk) ∧ w'.cell? ⟨g, k * 2 + 1, none⟩ = some (.int .i64 uk)) (by kernel_rfl) ?_
   change wpAnyH _ _ _ _ _ _ _ _ (World.drew _)
   refine tkA 0 (.slice an nd.length cn) rfl hS0 ?_
   refine tkA 1 (.pointer (some ⟨w.heap.size, 2, none⟩)) rfl hS0 ?_
   refine tkA 2 (.slice (some ⟨g, 0, none⟩) its.length cap) rfl hS0 ?_
   refine tkA 3 (.int .i64 (k : Nat)) rfl hS0 ?_
   refine tkA 4 (.pointer (some ⟨g, k * 2, none⟩)) rfl hS0 ?_
   refine tkA 5 (.pointer (some ⟨g, k * 2, none⟩)) rfl hS0 ?_
   refine tkA 6 (.string tk) rfl hS0 ?_
   refine tkA 7 (.pointer (some ⟨w.heap.size, 0, none⟩)) rfl hS0 ?_
   refine tkA 8 (.int .i64 wd) rfl hS0 ?_
   refine held_one 9 (by kernel_rfl) (op_calls (f := 30) (args := #[.string tk, .int .i64 wd]) rfl rfl (by go_simp) HSU.out ?_)
   rintro e w5 ⟨rfl, hb5⟩
   have hb5' : Below wr.heap.size wr w5 := ⟨hb5.os, hb5.tape, hb5.output, hb5.size, hb5.block⟩
   have hS1 : w5.cell? ⟨w.heap.size, 2, none⟩ = some (.slice (some ⟨g, 0, none⟩) its.length cap) ∧ w5.cell? ⟨w.heap.size, 0, none⟩ = some (.int .i64 wd) ∧ w5.cell? ⟨g, k * 2, none⟩ = some (.string tk) ∧ w5.cell? ⟨g, k * 2 + 1, none⟩ = some (.int .i64 uk) := HF1.out w5 hb5'
   refine ⟨_, rfl, hS1, ?_⟩
   refine held_one 10 (by kernel_rfl) (op_calls (f := 83) (args := #[.slice an nd.length cn, .string (sumX wd tk)]) rfl rfl (by go_simp) (HIN.out w5 hb5') ?_)
   rintro e w6 ⟨rfl, hw6⟩
   have hw7 := hw6.symm
   subst hw7
   clear hw6
   refine ⟨_, rfl, hS1, ?_⟩
   rw [hmem]
   refine tkA 11 (.bool false) rfl hS1 ?_
   refine tkA 12 (.bool false) rfl hS1 ?_
   refine tkO 13 rfl hS1 ?_
   refine tkO 14 rfl hS1 ?_
   refine tkO 15 rfl hS1 ?_
   refine tkO 16 rfl hS1 ?_
   refine tkO 17 rfl hS1 ?_
   refine tkO 18 rfl hS1 ?_
   refine tkO 19 rfl hS1 ?_
   refine tkO 20 rfl hS1 ?_
   refine tkO 21 rfl hS1 ?_
   refine tkO 22 rfl hS1 ?_
   refine tkO 23 rfl hS1 ?_
   refine tkO 24 rfl hS1 ?_
   refine tkO 25 rfl hS1 ?_
   refine tkO 26 rfl hS1 ?_
   refine tkO 27 rfl hS1 ?_
   refine tkO 28 rfl hS1 ?_
   refine tkO 29 rfl hS1 ?_
   refine tkA 30 (.bool false) rfl hS1 ?_
   refine wpAnyH_done (by kernel_rfl) ?_ _
   have HB6 := hid (HBW.out.trans (hb5'.mono HBW.out.size))
   clear hS0 hS1 hb5 hb5'
   go_simp
   go_wp2
   exact ⟨⟨k + 1, r, rfl, by go_num, by omega, by omega, by omega, HNX.out, HB6.out⟩, by simp [intOf]; omega⟩
  | false =>
   have hnm : sumX wd (itx its k) ∉ nd := by rw [HTK.out]; exact fun h => by rw [(inB_iff nd _).2 h] at hmem; cases hmem
   by_cases hr : r = -1
   ·subst hr
    have HNX := hid (HBE.out.first hnm)
    have hS0 := HF1.out wr.drew hbd
    clear hnm
    go_wp2_with fail
    refine wp_region_held (S := fun w' => w'.cell? ⟨w.heap.size, 2, none⟩ = some (.slice (some ⟨g, 0, none⟩) its.length cap) ∧ w'.cell? ⟨w.heap.size, 0, none⟩ = some (.int .i64 wd) ∧ w'.cell? ⟨g, k * 2, none⟩ = some (.string tk) ∧ w'.cell? ⟨g, k * 2 + 1, none⟩ = some (.int .i64 uk)) (by kernel_rfl) ?_
    change wpAnyH _ _ _ _ _ _ _ _ (World.drew _)
    refine tkA 0 (.slice an nd.length cn) rfl hS0 ?_
    refine tkA 1 (.pointer (some ⟨w.heap.size, 2, none⟩)) rfl hS0 ?_
    refine tkA 2 (.slice (some ⟨g, 0, none⟩) its.length cap) rfl hS0 ?_
    refine tkA 3 (.int .i64 (k : Nat)) rfl hS0 ?_
    refine tkA 4 (.pointer (some ⟨g, k * 2, none⟩)) rfl hS0 ?_
    refine tkA 5 (.pointer (some ⟨g, k * 2, none⟩)) rfl hS0 ?_
    refine tkA 6 (.string tk) rfl hS0 ?_
    refine tkA 7 (.pointer (some ⟨w.heap.size, 0, none⟩)) rfl hS0 ?_
    refine tkA 8 (.int .i64 wd) rfl hS0 ?_
    refine held_one 9 (by kernel_rfl) (op_calls (f := 30) (args := #[.string tk, .int .i64 wd]) rfl rfl (by go_simp) HSU.out ?_)
    rintro e w5 ⟨rfl, hb5⟩
    have hb5' : Below wr.heap.size wr w5 := ⟨hb5.os, hb5.tape, hb5.output, hb5.size, hb5.block⟩
    have hS1 : w5.cell? ⟨w.heap.size, 2, none⟩ = some (.slice (some ⟨g, 0, none⟩) its.length cap) ∧ w5.cell? ⟨w.heap.size, 0, none⟩ = some (.int .i64 wd) ∧ w5.cell? ⟨g, k * 2, none⟩ = some (.string tk) ∧ w5.cell? ⟨g, k * 2 + 1, none⟩ = some (.int .i64 uk) := HF1.out w5 hb5'
    refine ⟨_, rfl, hS1, ?_⟩
    refine held_one 10 (by kernel_rfl) (op_calls (f := 83) (args := #[.slice an nd.length cn, .string (sumX wd tk)]) rfl rfl (by go_simp) (HIN.out w5 hb5') ?_)
    rintro e w6 ⟨rfl, hw6⟩
    have hw7 := hw6.symm
    subst hw7
    clear hw6
    refine ⟨_, rfl, hS1, ?_⟩
    rw [hmem]
    refine tkA 11 (.bool true) rfl hS1 ?_
    refine tkA 12 (.bool true) rfl hS1 ?_
    refine tkG 13 (.int .i64 (-1)) rfl hS1 ?_
    refine tkG 14 (.bool true) rfl hS1 ?_
    refine tkG 15 (.bool true) rfl hS1 ?_
    refine tkO 16 rfl hS1 ?_
    refine tkO 17 rfl hS1 ?_
    refine tkO 18 rfl hS1 ?_
    refine tkO 19 rfl hS1 ?_
    refine tkO 20 rfl hS1 ?_
    refine tkO 21 rfl hS1 ?_
    refine tkO 22 rfl hS1 ?_
    refine tkO 23 rfl hS1 ?_
    refine tkO 24 rfl hS1 ?_
    refine tkO 25 rfl hS1 ?_
    refine tkO 26 rfl hS1 ?_
    refine tkO 27 rfl hS1 ?_
    refine tkO 28 rfl hS1 ?_
    refine tkG 29 (.bool true) rfl hS1 ?_
    refine tkA 30 (.bool true) rfl hS1 ?_
    refine wpAnyH_done (by kernel_rfl) ?_ _
    have HB6 := hid (HBW.out.trans (hb5'.mono HBW.out.size))
    clear hS0 hS1 hb5 hb5'
    go_simp
    go_wp2
    exact ⟨⟨k + 1, k, rfl, by go_num, by omega, by omega, by omega, HNX.out, HB6.out⟩, by simp [intOf]; omega⟩
   ·obtain ⟨b, rfl⟩ : ∃ b : Nat, r = b := ⟨r.toNat, by omega⟩
    have hbk : b < k := by
     rcases HBE.out with ⟨h, _⟩ | ⟨b', h1, h2, _⟩
     ·omega
     ·omega
    obtain ⟨ub, hub⟩ : ∃ x, itu its b = x := ⟨_, rfl⟩
    have HUB := hid hub
    have HF3 := hid fun (W : World) (h : Below wr.heap.size wr W) => (show W.cell? ⟨w.heap.size, 2, none⟩ = some (.slice (some ⟨g, 0, none⟩) its.length cap) ∧ W.cell? ⟨w.heap.size, 0, none⟩ = some (.int .i64 wd) ∧ W.cell? ⟨g, k * 2, none⟩ = some (.string tk) ∧ W.cell? ⟨g, k * 2 + 1, none⟩ = some (.int .i64 uk) ∧ W.cell? ⟨g, b * 2 + 1, none⟩ = some (.int .i64 ub) from by
     obtain ⟨a1, a2, a3, a4⟩ := HF1.out W h
     have R := HRR.out.kept (grown_of_below h) (.inr (fun e => by cases e))
     obtain ⟨_, c⟩ := row_cellI R b (by omega)
     rw [HUB.out] at c
     exact ⟨a1, a2, a3, a4, c⟩)
    have hS0 := HF3.out wr.drew hbd
    have hb0 : ¬ ((b : Int) < 0) := by omega
    by_cases hu : uk < ub
    ·have HNX := hid (HBE.out.less hnm (by rw [HUK.out, HUB.out]; exact hu))
     clear hnm hub
     go_wp2_with fail
     refine wp_region_held (S := fun w' => w'.cell? ⟨w.heap.size, 2, none⟩ = some (.slice (some ⟨g, 0, none⟩) its.length cap) ∧ w'.cell? ⟨w.heap.size, 0, none⟩ = some (.int .i64 wd) ∧ w'.cell? ⟨g, k * 2, none⟩ = some (.string tk) ∧ w'.cell? ⟨g, k * 2 + 1, none⟩ = some (.int .i64 uk) ∧ w'.cell? ⟨g, b * 2 + 1, none⟩ = some (.int .i64 ub)) (by kernel_rfl) ?_
     change wpAnyH _ _ _ _ _ _ _ _ (World.drew _)
     refine tkA 0 (.slice an nd.length cn) rfl hS0 ?_
     refine tkA 1 (.pointer (some ⟨w.heap.size, 2, none⟩)) rfl hS0 ?_
     refine tkA 2 (.slice (some ⟨g, 0, none⟩) its.length cap) rfl hS0 ?_
     refine tkA 3 (.int .i64 (k : Nat)) rfl hS0 ?_
     refine tkA 4 (.pointer (some ⟨g, k * 2, none⟩)) rfl hS0 ?_
     refine tkA 5 (.pointer (some ⟨g, k * 2, none⟩)) rfl hS0 ?_
     refine tkA 6 (.string tk) rfl hS0 ?_
     refine tkA 7 (.pointer (some ⟨w.heap.size, 0, none⟩)) rfl hS0 ?_
     refine tkA 8 (.int .i64 wd) rfl hS0 ?_
     refine held_one 9 (by kernel_rfl) (op_calls (f := 30) (args := #[.string tk, .int .i64 wd]) rfl rfl (by go_simp) HSU.out ?_)
     rintro e w5 ⟨rfl, hb5⟩
     have hb5' : Below wr.heap.size wr w5 := ⟨hb5.os, hb5.tape, hb5.output, hb5.size, hb5.block⟩
     have hS1 : w5.cell? ⟨w.heap.size, 2, none⟩ = some (.slice (some ⟨g, 0, none⟩) its.length cap) ∧ w5.cell? ⟨w.heap.size, 0, none⟩ = some (.int .i64 wd) ∧ w5.cell? ⟨g, k * 2, none⟩ = some (.string tk) ∧ w5.cell? ⟨g, k * 2 + 1, none⟩ = some (.int .i64 uk) ∧ w5.cell? ⟨g, b * 2 + 1, none⟩ = some (.int .i64 ub) := HF3.out w5 hb5'
     refine ⟨_, rfl, hS1, ?_⟩
     refine held_one 10 (by kernel_rfl) (op_calls (f := 83) (args := #[.slice an nd.length cn, .string (sumX wd tk)]) rfl rfl (by go_simp) (HIN.out w5 hb5') ?_)
     rintro e w6 ⟨rfl, hw6⟩
     have hw7 := hw6.symm
     subst hw7
     clear hw6
     refine ⟨_, rfl, hS1, ?_⟩
     rw [hmem]
     refine tkA 11 (.bool true) rfl hS1 ?_
     refine tkA 12 (.bool true) rfl hS1 ?_
     refine tkG 13 (.int .i64 (b : Nat)) rfl hS1 ?_
     refine tkG 14 (.bool false) rfl hS1 ?_
     refine tkG 15 (.bool false) rfl hS1 ?_
     refine tkG 16 (.pointer (some ⟨w.heap.size, 2, none⟩)) rfl hS1 ?_
     refine tkG 17 (.slice (some ⟨g, 0, none⟩) its.length cap) rfl hS1 ?_
     refine tkG 18 (.int .i64 (k : Nat)) rfl hS1 ?_
     refine tkG 19 (.pointer (some ⟨g, k * 2, none⟩)) rfl hS1 ?_
     refine tkG 20 (.pointer (some ⟨g, k * 2 + 1, none⟩)) rfl hS1 ?_
     refine tkG 21 (.int .i64 uk) rfl hS1 ?_
     refine tkG 22 (.pointer (some ⟨w.heap.size, 2, none⟩)) rfl hS1 ?_
     refine tkG 23 (.slice (some ⟨g, 0, none⟩) its.length cap) rfl hS1 ?_
     refine tkG 24 (.int .i64 (b : Nat)) rfl hS1 ?_
     refine tkG 25 (.pointer (some ⟨g, b * 2, none⟩)) rfl hS1 ?_
     refine tkG 26 (.pointer (some ⟨g, b * 2 + 1, none⟩)) rfl hS1 ?_
     refine tkG 27 (.int .i64 ub) rfl hS1 ?_
     refine tkG 28 (.bool true) rfl hS1 ?_
     refine tkG 29 (.bool true) rfl hS1 ?_
     refine tkA 30 (.bool true) rfl hS1 ?_
     refine wpAnyH_done (by kernel_rfl) ?_ _
     have HB6 := hid (HBW.out.trans (hb5'.mono HBW.out.size))
     clear hS0 hS1 hb5 hb5'
     go_simp
     go_wp2
     exact ⟨⟨k + 1, k, rfl, by go_num, by omega, by omega, by omega, HNX.out, HB6.out⟩, by simp [intOf]; omega⟩
    ·have HNX := hid (HBE.out.stay HA.out hlt (by rw [HUK.out, HUB.out]; exact hu))
     clear hnm hub
     go_wp2_with fail
     refine wp_region_held (S := fun w' => w'.cell? ⟨w.heap.size, 2, none⟩ = some (.slice (some ⟨g, 0, none⟩) its.length cap) ∧ w'.cell? ⟨w.heap.size, 0, none⟩ = some (.int .i64 wd) ∧ w'.cell? ⟨g, k * 2, none⟩ = some (.string tk) ∧ w'.cell? ⟨g, k * 2 + 1, none⟩ = some (.int .i64 uk) ∧ w'.cell? ⟨g, b * 2 + 1, none⟩ = some (.int .i64 ub)) (by kernel_rfl) ?_
     change wpAnyH _ _ _ _ _ _ _ _ (World.drew _)
     refine tkA 0 (.slice an nd.length cn) rfl hS0 ?_
     refine tkA 1 (.pointer (some ⟨w.heap.size, 2, none⟩)) rfl hS0 ?_
     refine tkA 2 (.slice (some ⟨g, 0, none⟩) its.length cap) rfl hS0 ?_
     refine tkA 3 (.int .i64 (k : Nat)) rfl hS0 ?_
     refine tkA 4 (.pointer (some ⟨g, k * 2, none⟩)) rfl hS0 ?_
     refine tkA 5 (.pointer (some ⟨g, k * 2, none⟩)) rfl hS0 ?_
     refine tkA 6 (.string tk) rfl hS0 ?_
     refine tkA 7 (.pointer (some ⟨w.heap.size, 0, none⟩)) rfl hS0 ?_
     refine tkA 8 (.int .i64 wd) rfl hS0 ?_
     refine held_one 9 (by kernel_rfl) (op_calls (f := 30) (args := #[.string tk, .int .i64 wd]) rfl rfl (by go_simp) HSU.out ?_)
     rintro e w5 ⟨rfl, hb5⟩
     have hb5' : Below wr.heap.size wr w5 := ⟨hb5.os, hb5.tape, hb5.output, hb5.size, hb5.block⟩
     have hS1 : w5.cell? ⟨w.heap.size, 2, none⟩ = some (.slice (some ⟨g, 0, none⟩) its.length cap) ∧ w5.cell? ⟨w.heap.size, 0, none⟩ = some (.int .i64 wd) ∧ w5.cell? ⟨g, k * 2, none⟩ = some (.string tk) ∧ w5.cell? ⟨g, k * 2 + 1, none⟩ = some (.int .i64 uk) ∧ w5.cell? ⟨g, b * 2 + 1, none⟩ = some (.int .i64 ub) := HF3.out w5 hb5'
     refine ⟨_, rfl, hS1, ?_⟩
     refine held_one 10 (by kernel_rfl) (op_calls (f := 83) (args := #[.slice an nd.length cn, .string (sumX wd tk)]) rfl rfl (by go_simp) (HIN.out w5 hb5') ?_)
     rintro e w6 ⟨rfl, hw6⟩
     have hw7 := hw6.symm
     subst hw7
     clear hw6
     refine ⟨_, rfl, hS1, ?_⟩
     rw [hmem]
     refine tkA 11 (.bool true) rfl hS1 ?_
     refine tkA 12 (.bool true) rfl hS1 ?_
     refine tkG 13 (.int .i64 (b : Nat)) rfl hS1 ?_
     refine tkG 14 (.bool false) rfl hS1 ?_
     refine tkG 15 (.bool false) rfl hS1 ?_
     refine tkG 16 (.pointer (some ⟨w.heap.size, 2, none⟩)) rfl hS1 ?_
     refine tkG 17 (.slice (some ⟨g, 0, none⟩) its.length cap) rfl hS1 ?_
     refine tkG 18 (.int .i64 (k : Nat)) rfl hS1 ?_
     refine tkG 19 (.pointer (some ⟨g, k * 2, none⟩)) rfl hS1 ?_
     refine tkG 20 (.pointer (some ⟨g, k * 2 + 1, none⟩)) rfl hS1 ?_
     refine tkG 21 (.int .i64 uk) rfl hS1 ?_
     refine tkG 22 (.pointer (some ⟨w.heap.size, 2, none⟩)) rfl hS1 ?_
     refine tkG 23 (.slice (some ⟨g, 0, none⟩) its.length cap) rfl hS1 ?_
     refine tkG 24 (.int .i64 (b : Nat)) rfl hS1 ?_
     refine tkG 25 (.pointer (some ⟨g, b * 2, none⟩)) rfl hS1 ?_
     refine tkG 26 (.pointer (some ⟨g, b * 2 + 1, none⟩)) rfl hS1 ?_
     refine tkG 27 (.int .i64 ub) rfl hS1 ?_
     refine tkG 28 (.bool false) rfl hS1 ?_
     refine tkG 29 (.bool false) rfl hS1 ?_
     refine tkA 30 (.bool false) rfl hS1 ?_
     refine wpAnyH_done (by kernel_rfl) ?_ _
     have HB6 := hid (HBW.out.trans (hb5'.mono HBW.out.size))
     clear hS0 hS1 hb5 hb5'
     go_simp
     go_wp2
     exact ⟨⟨k + 1, b, rfl, by go_num, by omega, by omega, by omega, HNX.out, HB6.out⟩, by simp [intOf]; omega⟩
end Go.Proofs.YtkjdabnglcabiaaGreatDoor
