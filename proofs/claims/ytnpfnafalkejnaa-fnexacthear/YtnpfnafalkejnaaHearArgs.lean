/- Notes as arguments: how large they are, copies of them; rows of notes: whether two are the same. -/
import Derived.Test.YtnpfnafalkejnaaNotesOwn
import Derived.Test.YtnpfnafalkejnaaTellLaw
namespace Go.Proofs.Ytnpfnafalkejnaa
open Go.RowKit
set_option maxRecDepth 100000 in
set_option maxHeartbeats 1000000 in
theorem szNote_any (f t m : ByteArray) (c : Int) (h : Bool) (v : Value) (ts : List ByteArray) (L : Nat) (w : World) (hv : Reads w v ts) (hf : f.size ≤ maxLen) (ht : t.size ≤ maxLen) (hm : m.size ≤ maxLen) (hl : ts.length ≤ maxLen) (hsz : ∀ i, (tv ts i).size ≤ maxLen) (hL : L ≤ 1048576) :
    Calls Try.prog 14 #[.agg #[.string f, .string t, .int .i64 c, .string m, .bool h, v], .int .i64 L] w fun e w' => ∃ r : Int, e = .returned (.int .i64 r) ∧ r ≤ L ∧ (0 ≤ r → f.size ≤ L ∧ t.size ≤ L ∧ m.size ≤ L ∧ ts.length ≤ L ∧ ∀ i, (tv ts i).size ≤ L) ∧ Below w.heap.size w w' := by
  unfold maxLen at hf ht hm
  have hA := (Below.refl w.heap.size w).alloc (Nat.le_refl _) (.cells #[.string f, .string t, .int .i64 c, .string m, .bool h, v] 32)
  have HS := hid fun (K : Nat) (hK : K ≤ 1048576) => szStrs_any v ts K _ (hv.below hA) hl hsz hK
  have HA := hid hA
  obtain ⟨av, cv, rfl, _⟩ := hv.form
  clear hv hA hsz
  by_cases h1 : L < f.size
  · have h1' : (L : Int) - (f.size : Int) < 0 := by omega
    go_enter Try.func14, Try.ntmps14
    go_wp2
    go_ret
    exact ⟨-1, rfl, by omega, fun h => by omega, HA.out⟩
  have h1' : ¬ ((L : Int) - (f.size : Int) < 0) := by omega
  by_cases h2 : L - f.size < t.size
  · have h2' : (L : Int) - (f.size : Int) - (t.size : Int) < 0 := by omega
    go_enter Try.func14, Try.ntmps14
    go_wp2
    go_ret
    exact ⟨-1, rfl, by omega, fun h => by omega, HA.out⟩
  have h2' : ¬ ((L : Int) - (f.size : Int) - (t.size : Int) < 0) := by omega
  by_cases h3 : L - f.size - t.size < m.size
  · have h3' : (L : Int) - (f.size : Int) - (t.size : Int) - (m.size : Int) < 0 := by omega
    go_enter Try.func14, Try.ntmps14
    go_wp2
    go_ret
    exact ⟨-1, rfl, by omega, fun h => by omega, HA.out⟩
  have h3' : ¬ ((L : Int) - (f.size : Int) - (t.size : Int) - (m.size : Int) < 0) := by omega
  have h4 : (L : Int) - (f.size : Int) - (t.size : Int) - (m.size : Int) = ((L - f.size - t.size - m.size : Nat) : Int) := by omega
  have HS1 := hid (HS.out (L - f.size - t.size - m.size) (by omega))
  rw [← h4] at HS1
  clear h4
  go_enter Try.func14, Try.ntmps14
  go_wp2_with fail
  refine HS1.out.mono ?_
  rintro e w1 ⟨r, rfl, hr1, hr, rfl⟩
  have HR := hid hr
  clear hr
  by_cases h0 : r < 0
  · go_wp2
    go_ret
    exact ⟨-1, rfl, by omega, fun h => by omega, HA.out⟩
  · go_wp2
    go_ret
    exact ⟨r, rfl, by omega, fun h => ⟨by omega, by omega, by omega, by have := (HR.out h).1; omega, fun i => by have := (HR.out h).2 i; omega⟩, HA.out⟩
set_option maxRecDepth 100000 in
set_option maxHeartbeats 1000000 in
theorem toNote_any (f t m : ByteArray) (c : Int) (h : Bool) (v : Value) (ts : List ByteArray) (w : World) (hv : Reads w v ts) (hl : ts.length ≤ 1048576) :
    Calls Try.prog 16 #[.agg #[.string f, .string t, .int .i64 c, .string m, .bool h, v]] w fun e w' => ∃ v', e = .returned (.agg #[.string f, .string t, .int .i64 c, .string m, .bool h, v']) ∧ w'.ownsRow (w.heap.size + 3) 9 1 v' ts.length (ts.map Value.string) ∧ Below w.heap.size w w' := by
  have hN2 := (Blk.new (w.alloc (.cells #[.string f, .string t, .int .i64 c, .string m, .bool h, v] 32)) 25 #[.string ⟨#[]⟩, .string ⟨#[]⟩, .int .i64 0, .string ⟨#[]⟩, .bool false, .slice none 0 0]).alloc (.cells #[.string f, .string t, .int .i64 c, .string m, .bool h, .slice none 0 0] 25)
  have hN3 := Blk.new ((w.alloc (.cells #[.string f, .string t, .int .i64 c, .string m, .bool h, v] 32)).alloc (.cells #[.string ⟨#[]⟩, .string ⟨#[]⟩, .int .i64 0, .string ⟨#[]⟩, .bool false, .slice none 0 0] 25)) 25 #[.string f, .string t, .int .i64 c, .string m, .bool h, .slice none 0 0]
  rw [World.size_alloc] at hN2
  rw [World.size_alloc, World.size_alloc] at hN3
  have hA := (((Below.refl w.heap.size w).alloc (Nat.le_refl _) (.cells #[.string f, .string t, .int .i64 c, .string m, .bool h, v] 32)).alloc (by simp) (.cells #[.string ⟨#[]⟩, .string ⟨#[]⟩, .int .i64 0, .string ⟨#[]⟩, .bool false, .slice none 0 0] 25)).alloc (by simp; omega) (.cells #[.string f, .string t, .int .i64 c, .string m, .bool h, .slice none 0 0] 25)
  have HT := hid (toStrs_any v ts _ (hv.below hA) hl)
  obtain ⟨av, cv, rfl, _⟩ := hv.form
  have HN2 := hid hN2
  have HN3 := hid hN3
  have HA := hid hA
  clear hv hA hN2 hN3
  go_enter Try.func16, Try.ntmps16
  go_wp2_with fail
  refine HT.out.mono ?_
  rintro e w1 ⟨v1, rfl, ho1, hb1⟩
  have N2 := HN2.out.below hb1
  have N3 := HN3.out.below hb1
  have B1 := HA.out.trans (hb1.mono (by simp; omega))
  rw [World.size_alloc, World.size_alloc, World.size_alloc] at ho1
  obtain ⟨a1, c1, rfl, _⟩ := row_form ho1
  have x4 : w1.cell? ⟨w.heap.size + 1 + 1, 5, none⟩ = some (.slice none 0 0) := N3.cell 5
  have x5 := N3.fz 5
  have M3 := N3.set 5 (.slice a1 ts.length c1)
  have g1 := grownBy_setCellAt w1 (w.heap.size + 1 + 1) 5 (.slice a1 ts.length c1)
  have M2 := N2.kept g1 (fun e => by simp at e)
  have MO := row_kept ho1 g1 (by omega)
  have MB := B1.setCell (p := ⟨w.heap.size + 1 + 1, 5, none⟩) (by simp; omega) (.slice a1 ts.length c1)
  have l0 : (w1.setCell ⟨w.heap.size + 1 + 1, 5, none⟩ (.slice a1 ts.length c1)).cell? ⟨w.heap.size + 1 + 1, 0, none⟩ = some (.string f) := M3.cell 0
  have l1 : (w1.setCell ⟨w.heap.size + 1 + 1, 5, none⟩ (.slice a1 ts.length c1)).cell? ⟨w.heap.size + 1 + 1, 1, none⟩ = some (.string t) := M3.cell 1
  have l2 : (w1.setCell ⟨w.heap.size + 1 + 1, 5, none⟩ (.slice a1 ts.length c1)).cell? ⟨w.heap.size + 1 + 1, 2, none⟩ = some (.int .i64 c) := M3.cell 2
  have l3 : (w1.setCell ⟨w.heap.size + 1 + 1, 5, none⟩ (.slice a1 ts.length c1)).cell? ⟨w.heap.size + 1 + 1, 3, none⟩ = some (.string m) := M3.cell 3
  have l4 : (w1.setCell ⟨w.heap.size + 1 + 1, 5, none⟩ (.slice a1 ts.length c1)).cell? ⟨w.heap.size + 1 + 1, 4, none⟩ = some (.bool h) := M3.cell 4
  have l5 : (w1.setCell ⟨w.heap.size + 1 + 1, 5, none⟩ (.slice a1 ts.length c1)).cell? ⟨w.heap.size + 1 + 1, 5, none⟩ = some (.slice a1 ts.length c1) := M3.cell 5
  obtain ⟨q0, k0, q1, k1, q2, k2, q3, k3, q4, k4, q5, k5, zz⟩ := M2.store6 (.string f) (.string t) (.int .i64 c) (.string m) (.bool h) (.slice a1 ts.length c1)
  have Z := hid zz
  have BB := hid ((((((MB.setCell (p := ⟨w.heap.size + 1, 0, none⟩) (by simp) (.string f)).setCell (p := ⟨w.heap.size + 1, 1, none⟩) (by simp) (.string t)).setCell (p := ⟨w.heap.size + 1, 2, none⟩) (by simp) (.int .i64 c)).setCell (p := ⟨w.heap.size + 1, 3, none⟩) (by simp) (.string m)).setCell (p := ⟨w.heap.size + 1, 4, none⟩) (by simp) (.bool h)).setCell (p := ⟨w.heap.size + 1, 5, none⟩) (by simp) (.slice a1 ts.length c1))
  have OO := hid (row_kept (row_kept (row_kept (row_kept (row_kept (row_kept MO (grownBy_setCellAt _ (w.heap.size + 1) 0 (.string f)) (by omega)) (grownBy_setCellAt _ (w.heap.size + 1) 1 (.string t)) (by omega)) (grownBy_setCellAt _ (w.heap.size + 1) 2 (.int .i64 c)) (by omega)) (grownBy_setCellAt _ (w.heap.size + 1) 3 (.string m)) (by omega)) (grownBy_setCellAt _ (w.heap.size + 1) 4 (.bool h)) (by omega)) (grownBy_setCellAt _ (w.heap.size + 1) 5 (.slice a1 ts.length c1)) (by omega))
  clear N2 N3 B1 g1 M2 M3 MO MB ho1 hb1 zz
  go_wp2
  refine bodyPost_ret (v := .agg #[.string f, .string t, .int .i64 c, .string m, .bool h, .slice a1 ts.length c1]) (by simp [results, Try.results16, go_sem, Z.out.cell]) rfl ⟨_, rfl, OO.out, BB.out⟩
set_option maxRecDepth 100000 in
set_option maxHeartbeats 2000000 in
theorem eqNoteS_any (va vb : Value) (ps : List Nt) (w : World) (ha : RdN w va ps) (hb : RdN w vb ps) (hl : ps.length ≤ maxLen) (hf : ∀ i, i < ps.length → (natt ps i).ss.length ≤ maxLen) :
    Calls Try.prog 18 #[va, vb] w fun e w' => e = .returned (.bool true) ∧ Below w.heap.size w w' := by
  unfold maxLen at hl
  obtain ⟨a, ca, rfl, hca⟩ := ha
  obtain ⟨b, cb, rfl, hcb⟩ := hb
  have HCA := hid hca
  have HCB := hid hcb
  have HF := hid hf
  clear hca hcb hf
  go_enter Try.func18, Try.ntmps18
  go_wp2
  go_loopw [5] (fun i wr => ∃ k : Nat, k ≤ ps.length ∧ i = .int .i64 k ∧ Below w.heap.size w wr) (fun i _ => ps.length - (intOf i).toNat)
  case atStart => exact ⟨0, Nat.zero_le _, rfl, Below.refl _ _⟩
  case round =>
    obtain ⟨k, hk, rfl, hbl⟩ := hrel
    by_cases hlt : k < ps.length
    · obtain ⟨b1, o1, v1, rfl, h1⟩ := HCA.out k hlt
      obtain ⟨b2, o2, v2, rfl, h2⟩ := HCB.out k hlt
      have g1 := h1.below hbl
      have g2 := h2.below hbl
      have hn := HF.out k hlt
      generalize natt ps k = p at *
      obtain ⟨pf, pt, pc, pm, ph, pn⟩ := p
      have HE := hid fun W ha hb => eqNote_any pf pt pm pc ph v1 v2 pn W ha hb hn
      obtain ⟨a3, c3, rfl, _⟩ := g1.rd.form
      obtain ⟨a4, c4, rfl, _⟩ := g2.rd.form
      obtain ⟨x0, x1, x2, x3, x4, x5, x6, x7⟩ := g1
      obtain ⟨y0, y1, y2, y3, y4, y5, y6, y7⟩ := g2
      dsimp only at x1 x2 x3 x4 x5 x6 x7 y1 y2 y3 y4 y5 y6 y7
      have HX6 := hid x7
      have HY6 := hid y7
      have HBL := hid hbl
      clear h1 h2 hbl x7 y7 hn
      go_wp2_with fail
      refine wp_region_held (S := fun w' => w'.cell? ⟨b1, o1 + k * 6, none⟩ = some (.string pf) ∧ w'.cell? ⟨b1, o1 + k * 6 + 1, none⟩ = some (.string pt) ∧ w'.cell? ⟨b1, o1 + k * 6 + 2, none⟩ = some (.int .i64 pc) ∧ w'.cell? ⟨b1, o1 + k * 6 + 3, none⟩ = some (.string pm) ∧ w'.cell? ⟨b1, o1 + k * 6 + 4, none⟩ = some (.bool ph) ∧ w'.cell? ⟨b1, o1 + k * 6 + 5, none⟩ = some (.slice a3 pn.length c3) ∧ w'.cell? ⟨b2, o2 + k * 6, none⟩ = some (.string pf) ∧ w'.cell? ⟨b2, o2 + k * 6 + 1, none⟩ = some (.string pt) ∧ w'.cell? ⟨b2, o2 + k * 6 + 2, none⟩ = some (.int .i64 pc) ∧ w'.cell? ⟨b2, o2 + k * 6 + 3, none⟩ = some (.string pm) ∧ w'.cell? ⟨b2, o2 + k * 6 + 4, none⟩ = some (.bool ph) ∧ w'.cell? ⟨b2, o2 + k * 6 + 5, none⟩ = some (.slice a4 pn.length c4)) (by kernel_rfl) ?_
      change wpAnyH _ _ _ _ _ _ _ _ (World.drew _)
      have hS0 : wr.drew.cell? ⟨b1, o1 + k * 6, none⟩ = some (.string pf) ∧ wr.drew.cell? ⟨b1, o1 + k * 6 + 1, none⟩ = some (.string pt) ∧ wr.drew.cell? ⟨b1, o1 + k * 6 + 2, none⟩ = some (.int .i64 pc) ∧ wr.drew.cell? ⟨b1, o1 + k * 6 + 3, none⟩ = some (.string pm) ∧ wr.drew.cell? ⟨b1, o1 + k * 6 + 4, none⟩ = some (.bool ph) ∧ wr.drew.cell? ⟨b1, o1 + k * 6 + 5, none⟩ = some (.slice a3 pn.length c3) ∧ wr.drew.cell? ⟨b2, o2 + k * 6, none⟩ = some (.string pf) ∧ wr.drew.cell? ⟨b2, o2 + k * 6 + 1, none⟩ = some (.string pt) ∧ wr.drew.cell? ⟨b2, o2 + k * 6 + 2, none⟩ = some (.int .i64 pc) ∧ wr.drew.cell? ⟨b2, o2 + k * 6 + 3, none⟩ = some (.string pm) ∧ wr.drew.cell? ⟨b2, o2 + k * 6 + 4, none⟩ = some (.bool ph) ∧ wr.drew.cell? ⟨b2, o2 + k * 6 + 5, none⟩ = some (.slice a4 pn.length c4) := ⟨x1, x2, x3, x4, x5, x6, y1, y2, y3, y4, y5, y6⟩
      refine wpAnyH_take (i := 0) (v := .slice (some ⟨b1, o1, none⟩) ps.length ca) rfl (by kernel_rfl) (by kernel_rfl) (by kernel_rfl) (fun _ _ _ h => h) (.inl ⟨rfl, fun w' hS => by obtain ⟨s1, s2, s3, s4, s5, s6, s7, s8, s9, s10, s11, s12⟩ := hS; go_simp⟩) hS0 ?_
      refine wpAnyH_take (i := 1) (v := .int .i64 (k : Nat)) rfl (by kernel_rfl) (by kernel_rfl) (by kernel_rfl) (fun _ _ _ h => h) (.inl ⟨rfl, fun w' hS => by obtain ⟨s1, s2, s3, s4, s5, s6, s7, s8, s9, s10, s11, s12⟩ := hS; go_simp⟩) hS0 ?_
      refine wpAnyH_take (i := 2) (v := .pointer (some ⟨b1, o1 + k * 6, none⟩)) rfl (by kernel_rfl) (by kernel_rfl) (by kernel_rfl) (fun _ _ _ h => h) (.inl ⟨rfl, fun w' hS => by obtain ⟨s1, s2, s3, s4, s5, s6, s7, s8, s9, s10, s11, s12⟩ := hS; go_simp⟩) hS0 ?_
      refine wpAnyH_take (i := 3) (v := .agg #[.string pf, .string pt, .int .i64 pc, .string pm, .bool ph, .slice a3 pn.length c3]) rfl (by kernel_rfl) (by kernel_rfl) (by kernel_rfl) (fun _ _ _ h => h) (.inl ⟨rfl, fun w' hS => by obtain ⟨s1, s2, s3, s4, s5, s6, s7, s8, s9, s10, s11, s12⟩ := hS; go_simp⟩) hS0 ?_
      refine wpAnyH_take (i := 4) (v := .slice (some ⟨b2, o2, none⟩) ps.length cb) rfl (by kernel_rfl) (by kernel_rfl) (by kernel_rfl) (fun _ _ _ h => h) (.inl ⟨rfl, fun w' hS => by obtain ⟨s1, s2, s3, s4, s5, s6, s7, s8, s9, s10, s11, s12⟩ := hS; go_simp⟩) hS0 ?_
      refine wpAnyH_take (i := 5) (v := .int .i64 (k : Nat)) rfl (by kernel_rfl) (by kernel_rfl) (by kernel_rfl) (fun _ _ _ h => h) (.inl ⟨rfl, fun w' hS => by obtain ⟨s1, s2, s3, s4, s5, s6, s7, s8, s9, s10, s11, s12⟩ := hS; go_simp⟩) hS0 ?_
      refine wpAnyH_take (i := 6) (v := .pointer (some ⟨b2, o2 + k * 6, none⟩)) rfl (by kernel_rfl) (by kernel_rfl) (by kernel_rfl) (fun _ _ _ h => h) (.inl ⟨rfl, fun w' hS => by obtain ⟨s1, s2, s3, s4, s5, s6, s7, s8, s9, s10, s11, s12⟩ := hS; go_simp⟩) hS0 ?_
      refine wpAnyH_take (i := 7) (v := .agg #[.string pf, .string pt, .int .i64 pc, .string pm, .bool ph, .slice a4 pn.length c4]) rfl (by kernel_rfl) (by kernel_rfl) (by kernel_rfl) (fun _ _ _ h => h) (.inl ⟨rfl, fun w' hS => by obtain ⟨s1, s2, s3, s4, s5, s6, s7, s8, s9, s10, s11, s12⟩ := hS; go_simp⟩) hS0 ?_
      have hec := enters_of Try.func9 (by kernel_rfl) rfl
      have hbd : Below wr.heap.size wr wr.drew := below_drewN (Below.refl _ _) 1
      refine held_one 8 (by kernel_rfl) (op_calls (f := 9) (args := #[.agg #[.string pf, .string pt, .int .i64 pc, .string pm, .bool ph, .slice a3 pn.length c3], .agg #[.string pf, .string pt, .int .i64 pc, .string pm, .bool ph, .slice a4 pn.length c4]]) rfl rfl (by go_simp) (HE.out _ (HX6.out.below hbd) (HY6.out.below hbd)) ?_)
      rintro e w1 ⟨rfl, hb1⟩
      have hb1' : Below wr.heap.size wr w1 := ⟨hb1.os, hb1.tape, hb1.output, hb1.size, hb1.block⟩
      have K := fun (b o : Nat) (v : Value) (hlt : b < wr.heap.size) (h : wr.cell? ⟨b, o, none⟩ = some v) => (hb1'.cell (p := ⟨b, o, none⟩) hlt).trans h
      have hS1 : w1.cell? ⟨b1, o1 + k * 6, none⟩ = some (.string pf) ∧ w1.cell? ⟨b1, o1 + k * 6 + 1, none⟩ = some (.string pt) ∧ w1.cell? ⟨b1, o1 + k * 6 + 2, none⟩ = some (.int .i64 pc) ∧ w1.cell? ⟨b1, o1 + k * 6 + 3, none⟩ = some (.string pm) ∧ w1.cell? ⟨b1, o1 + k * 6 + 4, none⟩ = some (.bool ph) ∧ w1.cell? ⟨b1, o1 + k * 6 + 5, none⟩ = some (.slice a3 pn.length c3) ∧ w1.cell? ⟨b2, o2 + k * 6, none⟩ = some (.string pf) ∧ w1.cell? ⟨b2, o2 + k * 6 + 1, none⟩ = some (.string pt) ∧ w1.cell? ⟨b2, o2 + k * 6 + 2, none⟩ = some (.int .i64 pc) ∧ w1.cell? ⟨b2, o2 + k * 6 + 3, none⟩ = some (.string pm) ∧ w1.cell? ⟨b2, o2 + k * 6 + 4, none⟩ = some (.bool ph) ∧ w1.cell? ⟨b2, o2 + k * 6 + 5, none⟩ = some (.slice a4 pn.length c4) := ⟨K _ _ _ x0 x1, K _ _ _ x0 x2, K _ _ _ x0 x3, K _ _ _ x0 x4, K _ _ _ x0 x5, K _ _ _ x0 x6, K _ _ _ y0 y1, K _ _ _ y0 y2, K _ _ _ y0 y3, K _ _ _ y0 y4, K _ _ _ y0 y5, K _ _ _ y0 y6⟩
      have HB1 := hid (HBL.out.trans (hb1'.mono HBL.out.size))
      clear hb1 hb1' hS0 x1 x2 x3 x4 x5 x6 y1 y2 y3 y4 y5 y6 K hbd
      refine ⟨_, rfl, hS1, ?_⟩
      refine wpAnyH_take (i := 9) (v := .bool false) rfl (by kernel_rfl) (by kernel_rfl) (by kernel_rfl) (fun _ _ _ h => h) (.inl ⟨rfl, fun w' hS => by obtain ⟨s1, s2, s3, s4, s5, s6, s7, s8, s9, s10, s11, s12⟩ := hS; go_simp⟩) hS1 ?_
      refine wpAnyH_done (by kernel_rfl) ?_ _
      clear hS1
      go_simp
      go_wp2
      go_roundw
      case rel => exact ⟨k + 1, by omega, by go_num, HB1.out⟩
      case measure => simp [intOf]; omega
    · go_wp2
      go_ret
      exact ⟨by simp, hbl⟩
end Go.Proofs.Ytnpfnafalkejnaa
