/- laws.heldNoteS. -/
import Derived.Test.YtnpfnafalkejnaaNotesMark
namespace Go.Proofs.Ytnpfnafalkejnaa
open Go.RowKit
theorem totN_take (ps : List Nt) (m : Nat) (h : m < ps.length) : totN (ps.take (m + 1)) = totN (ps.take m) + (5 + (natt ps m).ss.length) := by
  rw [List.take_succ_eq_append_getElem h, totN_append]
  simp [totN, natt, h]
theorem totN_take_le (ps : List Nt) (m : Nat) : totN (ps.take m) ≤ totN ps := by
  conv => rhs; rw [← List.take_append_drop m ps]
  rw [totN_append]; omega
theorem marksN_at : ∀ (ps : List Nt) (k m : Nat), m < ps.length → natt (marksN k ps) m = markNt (k + totN (ps.take m)) (natt ps m)
  | [], _, _, h => absurd h (by simp)
  | p :: r, k, 0, _ => by simp [marksN, natt, totN]
  | p :: r, k, m + 1, h => by
    have ih := marksN_at r (k + (5 + p.ss.length)) m (by simpa using h)
    have e1 : natt (marksN k (p :: r)) (m + 1) = natt (marksN (k + (5 + p.ss.length)) r) m := rfl
    have e2 : natt (p :: r) (m + 1) = natt r m := rfl
    rw [e1, e2, ih, List.take_succ_cons, totN]
    congr 1
    omega
set_option maxRecDepth 100000 in
set_option maxHeartbeats 2000000 in
theorem heldNoteS_any (v : Value) (k : Nat) (ps : List Nt) (w : World) (hv : RdN w v (marksN k ps)) (h1 : 1 ≤ k) (h2 : k + totN ps ≤ 4399990) :
    Calls Try.prog 20 #[v, .int .i64 k] w fun e w' => e = .returned (.int .i64 ((k + totN ps : Nat) : Int)) ∧ Below w.heap.size w w' := by
  obtain ⟨a, ca, rfl, hca⟩ := hv
  rw [marksN_len]
  rw [marksN_len] at hca
  have HC := hid hca
  have hec := enters_of Try.func28 (by kernel_rfl) rfl
  clear hca
  go_enter Try.func20, Try.ntmps20
  go_wp2
  go_loopw [1, 5] (fun x i wr => ∃ m : Nat, m ≤ ps.length ∧ i = .int .i64 m ∧ x = .int .i64 ((k + totN (ps.take m) : Nat) : Int) ∧ Below w.heap.size w wr) (fun _ i _ => ps.length - (intOf i).toNat)
  case atStart => exact ⟨0, Nat.zero_le _, rfl, by simp [totN], Below.refl _ _⟩
  case round =>
    obtain ⟨m, hm, rfl, rfl, hb⟩ := hrel
    by_cases hlt : m < ps.length
    · obtain ⟨b, o, vn, rfl, h5⟩ := HC.out m hlt
      rw [marksN_at ps k m hlt] at h5
      have g5 := h5.below hb
      have htk := totN_take ps m hlt
      have htl := totN_take_le ps (m + 1)
      obtain ⟨j, hj⟩ : ∃ j, j = k + totN (ps.take m) := ⟨_, rfl⟩
      rw [← hj] at g5 ⊢
      have hjb : j + 5 + (natt ps m).ss.length ≤ 4399990 := by omega
      have hql : ps.length ≤ 1000000 := by have := totN_ge ps; omega
      have HM0 := hid fun W => markText_any j W (by omega) (by omega)
      have HM1 := hid fun W => markText_any (j + 1) W (by omega) (by omega)
      have HM3 := hid fun W => markText_any (j + 3) W (by omega) (by omega)
      have HHS := hid fun W h => heldStringS_any vn (j + 5) (natt ps m).ss.length W h (by omega) (by omega)
      obtain ⟨x, c0, c1, c2, c3, c4, c5, rd⟩ := g5
      obtain ⟨a5, k5, hvn, _⟩ := rd.form
      rw [show (markNt j (natt ps m)).ss.length = (natt ps m).ss.length from marks_length _ _] at hvn
      subst hvn
      have HJ := hid hj
      have HTK := hid htk
      have HB := hid hb
      have HRD := hid rd
      obtain ⟨j1, hj1⟩ : ∃ j1, j1 = j + 1 := ⟨_, rfl⟩
      obtain ⟨j2, hj2⟩ : ∃ j2, j2 = j + 2 := ⟨_, rfl⟩
      obtain ⟨j3, hj3⟩ : ∃ j3, j3 = j + 3 := ⟨_, rfl⟩
      obtain ⟨j4, hj4⟩ : ∃ j4, j4 = j + 4 := ⟨_, rfl⟩
      obtain ⟨j5, hj5⟩ : ∃ j5, j5 = j + 5 := ⟨_, rfl⟩
      have hw1 : IntKind.i64.wrap ((j : Int) + 1) = (j1 : Int) := by rw [IntKind.wrap_i64]; omega
      have hw2 : IntKind.i64.wrap ((j1 : Int) + 1) = (j2 : Int) := by rw [IntKind.wrap_i64]; omega
      have hw3 : IntKind.i64.wrap ((j2 : Int) + 1) = (j3 : Int) := by rw [IntKind.wrap_i64]; omega
      have hw4 : IntKind.i64.wrap ((j3 : Int) + 1) = (j4 : Int) := by rw [IntKind.wrap_i64]; omega
      have hw5 : IntKind.i64.wrap ((j4 : Int) + 1) = (j5 : Int) := by rw [IntKind.wrap_i64]; omega
      have hmk : markNt j (natt ps m) = ⟨markB j, markB j1, (j2 : Int), markB j3, has3 j4, marks j5 (natt ps m).ss.length⟩ := by rw [hj1, hj2, hj3, hj4, hj5]; rfl
      have hrem : ((j4 : Int) % 3 == 0) = has3 j4 := rfl
      rw [hmk] at c0 c1 c2 c3 c4 HRD
      dsimp only at c0 c1 c2 c3 c4 HRD
      rw [← hj1] at HM1
      rw [← hj3] at HM3
      rw [← hj5] at HHS
      have HJ5 := hid hj5
      have hj4b : j4 ≤ 4400000 := by omega
      clear hj hj1 hj2 hj3 hj4 hj5 htk htl hb hmk h5 h1 h2 rd
      generalize markB j = q0 at *
      generalize markB j1 = q1 at *
      generalize markB j3 = q3 at *
      obtain ⟨bb, hbb⟩ : ∃ bb, bb = has3 j4 := ⟨_, rfl⟩
      rw [← hbb] at c4 hrem
      clear hbb
      generalize (natt ps m).ss.length = nl at *
      have HC1 := hid c1
      have HC2 := hid c2
      have HC3 := hid c3
      have HC4 := hid c4
      have HC5 := hid c5
      have HC0 := hid c0
      have HXL := hid x
      clear c0 c1 c2 c3 c4 c5
      have hS0 : wr.drew.cell? ⟨b, o + m * 6, none⟩ = some (.string q0) := HC0.out
      go_wp2_with fail
      refine wp_region_held (S := fun w' => w'.cell? ⟨b, o + m * 6, none⟩ = some (.string q0)) (by kernel_rfl) ?_
      change wpAnyH _ _ _ _ _ _ _ _ (World.drew _)
      refine wpAnyH_take (i := 0) (v := .slice (some ⟨b, o, none⟩) ps.length ca) rfl (by kernel_rfl) (by kernel_rfl) (by kernel_rfl) (fun _ _ _ h => h) (.inl ⟨rfl, fun w' hS => by obtain s1 := hS; go_simp⟩) hS0 ?_
      refine wpAnyH_take (i := 1) (v := .int .i64 (m : Nat)) rfl (by kernel_rfl) (by kernel_rfl) (by kernel_rfl) (fun _ _ _ h => h) (.inl ⟨rfl, fun w' hS => by obtain s1 := hS; go_simp⟩) hS0 ?_
      refine wpAnyH_take (i := 2) (v := .pointer (some ⟨b, o + m * 6, none⟩)) rfl (by kernel_rfl) (by kernel_rfl) (by kernel_rfl) (fun _ _ _ h => h) (.inl ⟨rfl, fun w' hS => by obtain s1 := hS; go_simp⟩) hS0 ?_
      refine wpAnyH_take (i := 3) (v := .pointer (some ⟨b, o + m * 6, none⟩)) rfl (by kernel_rfl) (by kernel_rfl) (by kernel_rfl) (fun _ _ _ h => h) (.inl ⟨rfl, fun w' hS => by obtain s1 := hS; go_simp⟩) hS0 ?_
      refine wpAnyH_take (i := 4) (v := .string q0) rfl (by kernel_rfl) (by kernel_rfl) (by kernel_rfl) (fun _ _ _ h => h) (.inl ⟨rfl, fun w' hS => by obtain s1 := hS; go_simp⟩) hS0 ?_
      refine wpAnyH_take (i := 5) (v := .int .i64 (j : Int)) rfl (by kernel_rfl) (by kernel_rfl) (by kernel_rfl) (fun _ _ _ h => h) (.inl ⟨rfl, fun w' hS => by obtain s1 := hS; go_simp⟩) hS0 ?_
      refine held_one 6 (by kernel_rfl) (op_calls (f := 28) (args := #[.int .i64 (j : Int)]) rfl rfl (by go_simp) (HM0.out _) ?_)
      rintro e w1 ⟨rfl, hb1⟩
      have hb1' : Below wr.heap.size wr w1 := ⟨hb1.os, hb1.tape, hb1.output, hb1.size, hb1.block⟩
      have hS1 : w1.cell? ⟨b, o + m * 6, none⟩ = some (.string q0) := (hb1'.cell (p := ⟨b, o + m * 6, none⟩) HXL.out).trans HC0.out
      have HC1 := hid ((hb1'.cell (p := ⟨b, o + m * 6 + 1, none⟩) HXL.out).trans HC1.out)
      have HC2 := hid ((hb1'.cell (p := ⟨b, o + m * 6 + 2, none⟩) HXL.out).trans HC2.out)
      have HC3 := hid ((hb1'.cell (p := ⟨b, o + m * 6 + 3, none⟩) HXL.out).trans HC3.out)
      have HC4 := hid ((hb1'.cell (p := ⟨b, o + m * 6 + 4, none⟩) HXL.out).trans HC4.out)
      have HC5 := hid ((hb1'.cell (p := ⟨b, o + m * 6 + 5, none⟩) HXL.out).trans HC5.out)
      have HXL := hid (Nat.lt_of_lt_of_le HXL.out hb1'.size)
      have HRD := hid (HRD.out.below hb1')
      have HB := hid (HB.out.trans (hb1'.mono HB.out.size))
      clear hb1 hb1' hS0
      refine ⟨_, rfl, hS1, ?_⟩
      refine wpAnyH_take (i := 7) (v := .bool false) rfl (by kernel_rfl) (by kernel_rfl) (by kernel_rfl) (fun _ _ _ h => h) (.inl ⟨rfl, fun w' hS => by obtain s1 := hS; go_simp⟩) hS1 ?_
      refine wpAnyH_done (by kernel_rfl) ?_ _
      clear hS1
      go_simp
      have hS0 : w1.drew.cell? ⟨b, o + m * 6 + 1, none⟩ = some (.string q1) := HC1.out
      go_wp2_with fail
      refine wp_region_held (S := fun w' => w'.cell? ⟨b, o + m * 6 + 1, none⟩ = some (.string q1)) (by kernel_rfl) ?_
      change wpAnyH _ _ _ _ _ _ _ _ (World.drew _)
      refine wpAnyH_take (i := 0) (v := .slice (some ⟨b, o, none⟩) ps.length ca) rfl (by kernel_rfl) (by kernel_rfl) (by kernel_rfl) (fun _ _ _ h => h) (.inl ⟨rfl, fun w' hS => by obtain s1 := hS; go_simp⟩) hS0 ?_
      refine wpAnyH_take (i := 1) (v := .int .i64 (m : Nat)) rfl (by kernel_rfl) (by kernel_rfl) (by kernel_rfl) (fun _ _ _ h => h) (.inl ⟨rfl, fun w' hS => by obtain s1 := hS; go_simp⟩) hS0 ?_
      refine wpAnyH_take (i := 2) (v := .pointer (some ⟨b, o + m * 6, none⟩)) rfl (by kernel_rfl) (by kernel_rfl) (by kernel_rfl) (fun _ _ _ h => h) (.inl ⟨rfl, fun w' hS => by obtain s1 := hS; go_simp⟩) hS0 ?_
      refine wpAnyH_take (i := 3) (v := .pointer (some ⟨b, o + m * 6 + 1, none⟩)) rfl (by kernel_rfl) (by kernel_rfl) (by kernel_rfl) (fun _ _ _ h => h) (.inl ⟨rfl, fun w' hS => by obtain s1 := hS; go_simp⟩) hS0 ?_
      refine wpAnyH_take (i := 4) (v := .string q1) rfl (by kernel_rfl) (by kernel_rfl) (by kernel_rfl) (fun _ _ _ h => h) (.inl ⟨rfl, fun w' hS => by obtain s1 := hS; go_simp⟩) hS0 ?_
      refine wpAnyH_take (i := 5) (v := .int .i64 (j1 : Int)) rfl (by kernel_rfl) (by kernel_rfl) (by kernel_rfl) (fun _ _ _ h => h) (.inl ⟨rfl, fun w' hS => by obtain s1 := hS; go_simp⟩) hS0 ?_
      refine held_one 6 (by kernel_rfl) (op_calls (f := 28) (args := #[.int .i64 (j1 : Int)]) rfl rfl (by go_simp) (HM1.out _) ?_)
      rintro e w2 ⟨rfl, hb1⟩
      have hb1' : Below w1.heap.size w1 w2 := ⟨hb1.os, hb1.tape, hb1.output, hb1.size, hb1.block⟩
      have hS1 : w2.cell? ⟨b, o + m * 6 + 1, none⟩ = some (.string q1) := (hb1'.cell (p := ⟨b, o + m * 6 + 1, none⟩) HXL.out).trans HC1.out
      have HC2 := hid ((hb1'.cell (p := ⟨b, o + m * 6 + 2, none⟩) HXL.out).trans HC2.out)
      have HC3 := hid ((hb1'.cell (p := ⟨b, o + m * 6 + 3, none⟩) HXL.out).trans HC3.out)
      have HC4 := hid ((hb1'.cell (p := ⟨b, o + m * 6 + 4, none⟩) HXL.out).trans HC4.out)
      have HC5 := hid ((hb1'.cell (p := ⟨b, o + m * 6 + 5, none⟩) HXL.out).trans HC5.out)
      have HXL := hid (Nat.lt_of_lt_of_le HXL.out hb1'.size)
      have HRD := hid (HRD.out.below hb1')
      have HB := hid (HB.out.trans (hb1'.mono HB.out.size))
      clear hb1 hb1' hS0
      refine ⟨_, rfl, hS1, ?_⟩
      refine wpAnyH_take (i := 7) (v := .bool false) rfl (by kernel_rfl) (by kernel_rfl) (by kernel_rfl) (fun _ _ _ h => h) (.inl ⟨rfl, fun w' hS => by obtain s1 := hS; go_simp⟩) hS1 ?_
      refine wpAnyH_done (by kernel_rfl) ?_ _
      clear hS1
      go_simp
      have c2 := HC2.out
      have hS0 : w2.drew.cell? ⟨b, o + m * 6 + 3, none⟩ = some (.string q3) := HC3.out
      go_wp2_with fail
      refine wp_region_held (S := fun w' => w'.cell? ⟨b, o + m * 6 + 3, none⟩ = some (.string q3)) (by kernel_rfl) ?_
      change wpAnyH _ _ _ _ _ _ _ _ (World.drew _)
      refine wpAnyH_take (i := 0) (v := .slice (some ⟨b, o, none⟩) ps.length ca) rfl (by kernel_rfl) (by kernel_rfl) (by kernel_rfl) (fun _ _ _ h => h) (.inl ⟨rfl, fun w' hS => by obtain s1 := hS; go_simp⟩) hS0 ?_
      refine wpAnyH_take (i := 1) (v := .int .i64 (m : Nat)) rfl (by kernel_rfl) (by kernel_rfl) (by kernel_rfl) (fun _ _ _ h => h) (.inl ⟨rfl, fun w' hS => by obtain s1 := hS; go_simp⟩) hS0 ?_
      refine wpAnyH_take (i := 2) (v := .pointer (some ⟨b, o + m * 6, none⟩)) rfl (by kernel_rfl) (by kernel_rfl) (by kernel_rfl) (fun _ _ _ h => h) (.inl ⟨rfl, fun w' hS => by obtain s1 := hS; go_simp⟩) hS0 ?_
      refine wpAnyH_take (i := 3) (v := .pointer (some ⟨b, o + m * 6 + 3, none⟩)) rfl (by kernel_rfl) (by kernel_rfl) (by kernel_rfl) (fun _ _ _ h => h) (.inl ⟨rfl, fun w' hS => by obtain s1 := hS; go_simp⟩) hS0 ?_
      refine wpAnyH_take (i := 4) (v := .string q3) rfl (by kernel_rfl) (by kernel_rfl) (by kernel_rfl) (fun _ _ _ h => h) (.inl ⟨rfl, fun w' hS => by obtain s1 := hS; go_simp⟩) hS0 ?_
      refine wpAnyH_take (i := 5) (v := .int .i64 (j3 : Int)) rfl (by kernel_rfl) (by kernel_rfl) (by kernel_rfl) (fun _ _ _ h => h) (.inl ⟨rfl, fun w' hS => by obtain s1 := hS; go_simp⟩) hS0 ?_
      refine held_one 6 (by kernel_rfl) (op_calls (f := 28) (args := #[.int .i64 (j3 : Int)]) rfl rfl (by go_simp) (HM3.out _) ?_)
      rintro e w3 ⟨rfl, hb1⟩
      have hb1' : Below w2.heap.size w2 w3 := ⟨hb1.os, hb1.tape, hb1.output, hb1.size, hb1.block⟩
      have hS1 : w3.cell? ⟨b, o + m * 6 + 3, none⟩ = some (.string q3) := (hb1'.cell (p := ⟨b, o + m * 6 + 3, none⟩) HXL.out).trans HC3.out
      have HC4 := hid ((hb1'.cell (p := ⟨b, o + m * 6 + 4, none⟩) HXL.out).trans HC4.out)
      have HC5 := hid ((hb1'.cell (p := ⟨b, o + m * 6 + 5, none⟩) HXL.out).trans HC5.out)
      have HXL := hid (Nat.lt_of_lt_of_le HXL.out hb1'.size)
      have HRD := hid (HRD.out.below hb1')
      have HB := hid (HB.out.trans (hb1'.mono HB.out.size))
      clear hb1 hb1' hS0
      refine ⟨_, rfl, hS1, ?_⟩
      refine wpAnyH_take (i := 7) (v := .bool false) rfl (by kernel_rfl) (by kernel_rfl) (by kernel_rfl) (fun _ _ _ h => h) (.inl ⟨rfl, fun w' hS => by obtain s1 := hS; go_simp⟩) hS1 ?_
      refine wpAnyH_done (by kernel_rfl) ?_ _
      clear hS1
      go_simp
      have c4 := HC4.out
      have c5 := HC5.out
      go_wp2_with fail
      refine (HHS.out _ HRD.out).mono ?_
      rintro e w4 ⟨rfl, hb4⟩
      have HB4 := hid (HB.out.trans (hb4.mono HB.out.size))
      clear hb4
      go_wp2
      refine ⟨⟨m + 1, by omega, by go_num, by rw [HTK.out, HJ5.out, HJ.out]; congr 1; omega, HB4.out⟩, by simp [intOf]; omega⟩
    · obtain rfl : m = ps.length := by omega
      rw [List.take_length]
      go_wp2
      go_ret
      exact ⟨rfl, hb⟩
end Go.Proofs.Ytnpfnafalkejnaa
