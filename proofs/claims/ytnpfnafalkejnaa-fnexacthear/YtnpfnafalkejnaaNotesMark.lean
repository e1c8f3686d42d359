/- laws.markNoteS. -/
import Derived.Test.YtnpfnafalkejnaaHearArgs
namespace Go.Proofs.Ytnpfnafalkejnaa
open Go.RowKit
def has3 (k : Nat) : Bool := (k : Int) % 3 == 0
def markNt (k : Nat) (x : Nt) : Nt := ⟨markB k, markB (k + 1), ((k + 2 : Nat) : Int), markB (k + 3), has3 (k + 4), marks (k + 5) x.ss.length⟩
def totN : List Nt → Nat
  | [] => 0
  | p :: r => 5 + p.ss.length + totN r
def marksN : Nat → List Nt → List Nt
  | _, [] => []
  | k, p :: r => markNt k p :: marksN (k + (5 + p.ss.length)) r
def totM (qs : NV) : Nat := totN (qs.map Prod.fst)
def marksM : Nat → NV → NV
  | _, [] => []
  | k, q :: r => (markNt k q.1, q.2) :: marksM (k + (5 + q.1.ss.length)) r
theorem marksM_len : ∀ (qs : NV) (k : Nat), (marksM k qs).length = qs.length
  | [], _ => rfl
  | _ :: r, k => by simp [marksM, marksM_len r]
theorem marksN_len : ∀ (ps : List Nt) (k : Nat), (marksN k ps).length = ps.length
  | [], _ => rfl
  | _ :: r, k => by simp [marksN, marksN_len r]
theorem marksM_fst : ∀ (qs : NV) (k : Nat), (marksM k qs).map Prod.fst = marksN k (qs.map Prod.fst)
  | [], _ => rfl
  | _ :: r, k => by simp [marksM, marksN, marksM_fst r]
theorem totN_append : ∀ (a b : List Nt), totN (a ++ b) = totN a + totN b
  | [], b => by simp [totN]
  | p :: r, b => by simp [totN, totN_append r b]; omega
theorem totM_append (a b : NV) : totM (a ++ b) = totM a + totM b := by simp [totM, totN_append]
theorem marksM_append : ∀ (a b : NV) (k : Nat), marksM k (a ++ b) = marksM k a ++ marksM (k + totM a) b
  | [], b, k => by simp [marksM, totM, totN]
  | q :: r, b, k => by simp [marksM, marksM_append r b, totM, totN, Nat.add_assoc]
theorem marksN_append : ∀ (a b : List Nt) (k : Nat), marksN k (a ++ b) = marksN k a ++ marksN (k + totN a) b
  | [], b, k => by simp [marksN, totN]
  | q :: r, b, k => by simp [marksN, marksN_append r b, totN, Nat.add_assoc]
def mixM (k m : Nat) (qs : NV) : NV := marksM k (qs.take m) ++ qs.drop m
theorem mixM_len (k m : Nat) (qs : NV) (h : m ≤ qs.length) : (mixM k m qs).length = qs.length := by simp [mixM, marksM_len]; omega
theorem mixM_zero (k : Nat) (qs : NV) : mixM k 0 qs = qs := by simp [mixM, marksM]
theorem mixM_all (k : Nat) (qs : NV) : mixM k qs.length qs = marksM k qs := by simp [mixM]
theorem ms_at (qs : NV) (m : Nat) (h : m < qs.length) : qs[m] = (mp qs m, mv qs m) := by simp [mp, mv, h]
theorem totM_take (qs : NV) (m : Nat) (h : m < qs.length) : totM (qs.take (m + 1)) = totM (qs.take m) + (5 + (mp qs m).ss.length) := by
  rw [List.take_succ_eq_append_getElem h, totM_append, ms_at qs m h]
  simp [totM, totN]
theorem totM_take_le (qs : NV) (m : Nat) : totM (qs.take m) ≤ totM qs := by
  conv => rhs; rw [← List.take_append_drop m qs]
  rw [totM_append]; omega
theorem totN_ge : ∀ ps : List Nt, 5 * ps.length ≤ totN ps
  | [] => by simp
  | p :: r => by
    have := totN_ge r
    simp only [totN, List.length_cons]
    omega
theorem totM_ge (qs : NV) : 5 * qs.length ≤ totM qs := by
  have := totN_ge (qs.map Prod.fst)
  rw [List.length_map] at this
  exact this
theorem mixM_at (k m : Nat) (qs : NV) (h : m < qs.length) : mp (mixM k m qs) m = mp qs m ∧ mv (mixM k m qs) m = mv qs m := by
  have hl : (marksM k (qs.take m)).length = m := by rw [marksM_len]; simp; omega
  have : (mixM k m qs)[m]? = qs[m]? := by
    unfold mixM
    rw [List.getElem?_append_right (by omega), hl, Nat.sub_self, List.getElem?_drop, Nat.add_zero]
  constructor <;> simp only [mp, mv, List.getD_eq_getElem?_getD, this]
theorem mixM_succ (k m : Nat) (qs : NV) (h : m < qs.length) : (mixM k m qs).set m (markNt (k + totM (qs.take m)) (mp qs m), mv qs m) = mixM k (m + 1) qs := by
  have hl : (marksM k (qs.take m)).length = m := by rw [marksM_len]; simp; omega
  unfold mixM
  rw [List.set_append_right _ _ (by omega), hl, Nat.sub_self, List.drop_eq_getElem_cons h, List.set_cons_zero, List.take_succ_eq_append_getElem h, marksM_append, ms_at qs m h]
  simp [marksM]
theorem mv_marks : ∀ (qs : NV) (k i : Nat), mv (marksM k qs) i = mv qs i
  | [], _, _ => rfl
  | _ :: _, _, 0 => rfl
  | q :: r, k, i + 1 => mv_marks r (k + (5 + q.1.ss.length)) i
theorem mp_set (qs : NV) (m i : Nat) (q : Nt × Value) (h : m < qs.length) : mp (qs.set m q) i = if i = m then q.1 else mp qs i := by
  unfold mp
  rw [List.getD_eq_getElem?_getD, List.getElem?_set]
  by_cases e : m = i
  · subst e; simp [h]
  · rw [if_neg e, if_neg (fun h => e h.symm), ← List.getD_eq_getElem?_getD]
theorem mv_set (qs : NV) (m i : Nat) (p : Nt) (h : m < qs.length) : mv (qs.set m (p, mv qs m)) i = mv qs i := by
  unfold mv
  rw [List.getD_eq_getElem?_getD, List.getElem?_set]
  by_cases e : m = i
  · subst e; simp [h]
  · rw [if_neg e, ← List.getD_eq_getElem?_getD]
/-- The block that sums lie in, if there are any. -/
def sumBlk (v : Value) (n : Nat) : Option Nat := if n = 0 then none else v.ownBlock
set_option maxRecDepth 100000 in
theorem markSums_any (v : Value) (k B : Nat) (ss : List ByteArray) (w : World) (hown : SumOwn w B v ss) (h1 : 1 ≤ k) (h2 : k + ss.length ≤ 4400000) :
    Calls Try.prog 11 #[v, .int .i64 k] w fun e w' => e = .returned (.int .i64 ((k + ss.length : Nat) : Int)) ∧ SumOwn w' B v (marks k ss.length) ∧ w.grownBy w' (sumBlk v ss.length) := by
  rcases hown with ⟨rfl, a, c, rfl⟩ | ⟨hn, ho⟩
  · go_enter Try.func11, Try.ntmps11
    go_wp2
    go_loopw [1, 5] (fun x i wr => x = .int .i64 (k : Int) ∧ i = .int .i64 0 ∧ wr = w) (fun _ _ _ => 0)
    case atStart => exact ⟨rfl, rfl, rfl⟩
    case round =>
      obtain ⟨rfl, rfl, rfl⟩ := hrel
      go_wp2
      go_ret
      exact ⟨by simp, .inl ⟨by simp [marks], a, c, rfl⟩, grown_refl _ _⟩
  · have hl : ss.length ≠ 0 := fun e => hn (List.eq_nil_of_length_eq_zero e)
    refine (markStringS_grown v k B ss w ho h1 h2).mono ?_
    rintro e w1 ⟨rfl, h3, h4⟩
    refine ⟨rfl, .inr ⟨fun e => hl (by rw [← marks_length k ss.length, e]; rfl), by rw [marks_length]; exact h3⟩, ?_⟩
    rw [sumBlk, if_neg hl]
    exact h4
set_option maxRecDepth 100000 in
set_option maxHeartbeats 2000000 in
theorem markNoteS_any (v : Value) (k B : Nat) (qs : NV) (w : World) (hown : NotesOwn w B v qs) (h1 : 1 ≤ k) (h2 : k + totM qs ≤ 4399990) :
    Calls Try.prog 19 #[v, .int .i64 k] w fun e w' => e = .returned (.int .i64 ((k + totM qs : Nat) : Int)) ∧ NotesOwn w' B v (marksM k qs) ∧ KeptN w w' (NBlk v qs) := by
  obtain ⟨a, cap, rfl⟩ := nrow_any hown.row
  have hform : 0 < qs.length → ∃ g, a = some ⟨g, 0, none⟩ := fun h => by
    rcases hown.row with ⟨_, ⟨e, h0⟩ | ⟨g, cap', cur, e, _⟩⟩
    · omega
    · cases e; exact ⟨g, rfl⟩
  have HW := hid hown
  clear hown
  go_enter Try.func19, Try.ntmps19
  go_wp2
  go_loopw [1, 5] (fun x i wr => ∃ m : Nat, m ≤ qs.length ∧ i = .int .i64 m ∧ x = .int .i64 ((k + totM (qs.take m) : Nat) : Int) ∧ NotesOwn wr B (.slice a qs.length cap) (mixM k m qs) ∧ KeptN w wr (NBlk (.slice a qs.length cap) qs)) (fun _ i _ => qs.length - (intOf i).toNat)
  case atStart => exact ⟨0, Nat.zero_le _, rfl, by simp [totM, totN], by rw [mixM_zero]; exact HW.out, KeptN.refl _ _⟩
  case round =>
    obtain ⟨m, hm, rfl, rfl, hr, hb⟩ := hrel
    by_cases hlt : m < qs.length
    · obtain ⟨g, rfl⟩ := hform (by omega)
      have hlm := mixM_len k m qs hm
      have htk := totM_take qs m hlt
      have htl := totM_take_le qs (m + 1)
      obtain ⟨hqp, hqv⟩ := mixM_at k m qs hlt
      have hC := cellsN_at (mixM k m qs) m (by omega)
      rw [hqp, hqv] at hC
      obtain ⟨j, hj⟩ : ∃ j, j = k + totM (qs.take m) := ⟨_, rfl⟩
      have HX := hid (mixM_succ k m qs hlt)
      have HS4 := hid (cellsN_set5 (mixM k m qs) m (markNt (k + totM (qs.take m)) (mp qs m)) (by omega))
      rw [← hj] at HX HS4 ⊢
      have hjb : j + 5 + (mp qs m).ss.length ≤ 4399990 := by omega
      have hql : qs.length ≤ 1000000 := by have := totM_ge qs; omega
      have hN := hr.sums m (by omega)
      rw [hqp, hqv] at hN
      have hap := hr.apart m (by omega)
      rw [hqv, hqp] at hap
      have HAP := hid hap
      have hr0 := hr.row
      rw [hlm] at hr0
      have HM0 := hid fun W => markText_any j W (by omega) (by omega)
      have HM1 := hid fun W => markText_any (j + 1) W (by omega) (by omega)
      have HM3 := hid fun W => markText_any (j + 3) W (by omega) (by omega)
      have HMS := hid fun W (hw : SumOwn W B (mv qs m) (mp qs m).ss) => markSums_any (mv qs m) (j + 5) B (mp qs m).ss W hw (by omega) (by omega)
      have HJ := hid hj
      have HTK := hid htk
      have HR := hid hr
      have HB := hid hb
      have HLM := hid hlm
      have HQV : Hid (mv (mixM k m qs) m = mv qs m) := hqv
      have HQP : Hid (mp (mixM k m qs) m = mp qs m) := hqp
      obtain ⟨j1, hj1⟩ : ∃ j1, j1 = j + 1 := ⟨_, rfl⟩
      obtain ⟨j2, hj2⟩ : ∃ j2, j2 = j + 2 := ⟨_, rfl⟩
      obtain ⟨j3, hj3⟩ : ∃ j3, j3 = j + 3 := ⟨_, rfl⟩
      obtain ⟨j4, hj4⟩ : ∃ j4, j4 = j + 4 := ⟨_, rfl⟩
      obtain ⟨j5, hj5⟩ : ∃ j5, j5 = j + 5 := ⟨_, rfl⟩
      have hw1 : IntKind.i64.wrap ((j : Int) + 1) = (j1 : Int) := by rw [IntKind.wrap_i64]; omega
      have hw2 : IntKind.i64.wrap ((j1 : Int) + 1) = (j2 : Int) := by rw [IntKind.wrap_i64]; omega
      have hw3 : IntKind.i64.wrap ((j2 : Int) + 1) = (j3 : Int) := by rw [IntKind.wrap_i64]; omega
      have hw4 : IntKind.i64.wrap ((j3 : Int) + 1) = (j4 : Int) := by rw [IntKind.wrap_i64]; omega
      have hw5 : IntKind.i64.wrap ((j4 : Int) + 1) = (j5 : Int) := by rw [IntKind.wrap_i64]; omega
      have hmk : markNt j (mp qs m) = ⟨markB j, markB j1, (j2 : Int), markB j3, has3 j4, marks j5 (mp qs m).ss.length⟩ := by rw [hj1, hj2, hj3, hj4, hj5]; rfl
      have hrem : ((j4 : Int) % 3 == 0) = has3 j4 := rfl
      rw [hmk] at HX HS4
      rw [← hj1] at HM1
      rw [← hj3] at HM3
      rw [← hj5] at HMS
      have HJ5 := hid hj5
      have hj4b : j4 ≤ 4400000 := by omega
      clear hj hj1 hj2 hj3 hj4 hj5 htk htl hr hb hlm hqp hqv hap h1 h2 hmk
      generalize hcs : cellsN (mixM k m qs) = cs at *
      clear hcs
      have hcl : qs.length * 6 = cs.length := by have := hr0.1; omega
      generalize markB j = q0 at *
      generalize markB j1 = q1 at *
      generalize markB j3 = q3 at *
      obtain ⟨bb, hbb⟩ : ∃ bb, bb = has3 j4 := ⟨_, rfl⟩
      rw [← hbb] at HX HS4 hrem
      clear hbb
      obtain ⟨a4, c4, hvn⟩ := hN.form
      have HVN := hid hvn
      rw [hvn] at hC
      have HN := hid hN
      generalize hnt : (mp qs m).ss = nt at *
      have HNT := hid hnt
      clear hnt
      generalize hz0 : (mp qs m).f = z0 at *
      generalize hz1 : (mp qs m).t = z1 at *
      generalize hz2 : (mp qs m).c = z2 at *
      generalize hz3 : (mp qs m).m = z3 at *
      generalize hz4 : (mp qs m).h = z4 at *
      clear hz0 hz1 hz2 hz3 hz4 hvn hN
      obtain ⟨C0, C1, C2, C3, C4, C5⟩ := hC
      have hz : m * 6 + 5 < qs.length * 6 := by omega
      have e0 := (hr0.cellAt (m * 6) (by omega)).trans C0
      have e1 := (hr0.cellAt (m * 6 + 1) (by omega)).trans C1
      have e2 := (hr0.cellAt (m * 6 + 2) (by omega)).trans C2
      have e3 := (hr0.cellAt (m * 6 + 3) (by omega)).trans C3
      have e4 := (hr0.cellAt (m * 6 + 4) (by omega)).trans C4
      have e5 := (hr0.cellAt (m * 6 + 5) (by omega)).trans C5
      have HE1 := hid e1
      have HE2 := hid e2
      have HE3 := hid e3
      have HE4 := hid e4
      have HE5 := hid e5
      have HE0 := hid e0
      have HR0 := hid hr0
      clear e0 e1 e2 e3 e4 e5 hr0 C0 C1 C2 C3 C4 C5
      go_wp2_with fail
      refine (HM0.out _).mono ?_
      rintro e w1 ⟨rfl, hb1⟩
      have r1 := HR0.out.kept (grown_of_below hb1) (.inr (by simp [Value.ownBlock]))
      have hgl := (HR0.out.lt g rfl).2
      have x0 := (hb1.cell (p := ⟨g, m * 6, none⟩) hgl).trans HE0.out
      have f0 := r1.frozenAt (m * 6)
      have r2 := r1.stored (m * 6) (.string q0)
      have G2 := grown_same (grown_below' (o := some g) hb1) r2.2
      have K2 := fun (i : Nat) (u : Value) (hi : i ≠ m * 6) (hi2 : i < qs.length * 6) (h : wr.cell? ⟨g, i, none⟩ = some u) => ((r2.1.cellAt i hi2).trans (List.getElem?_set_ne (by omega))).trans ((r1.cellAt i hi2).symm.trans ((hb1.cell (p := ⟨g, i, none⟩) hgl).trans h))
      have HK1 := hid (K2 _ _ (by omega) (by omega) HE1.out)
      have HK2 := hid (K2 _ _ (by omega) (by omega) HE2.out)
      have HK3 := hid (K2 _ _ (by omega) (by omega) HE3.out)
      have HK4 := hid (K2 _ _ (by omega) (by omega) HE4.out)
      have HK5 := hid (K2 _ _ (by omega) (by omega) HE5.out)
      have HR2 := hid r2.1
      have HG2 := hid G2
      clear r1 r2 G2 K2 hb1 hgl HE0 HE1 HE2 HE3 HE4 HE5 HR0 HM0
      go_wp2_with fail
      generalize hU2 : w1.setCell ⟨g, m * 6, none⟩ (.string q0) = u2 at *
      clear hU2 x0 f0
      refine (HM1.out _).mono ?_
      rintro e w3 ⟨rfl, hb3⟩
      have r3 := HR2.out.kept (grown_of_below hb3) (.inr (by simp [Value.ownBlock]))
      have hgl := (HR2.out.lt g rfl).2
      have x1 := (hb3.cell (p := ⟨g, m * 6 + 1, none⟩) hgl).trans HK1.out
      have f1 := r3.frozenAt (m * 6 + 1)
      have r4 := r3.stored (m * 6 + 1) (.string q1)
      have K4 := fun (i : Nat) (u : Value) (hi : i ≠ m * 6 + 1) (hi2 : i < qs.length * 6) (h : u2.cell? ⟨g, i, none⟩ = some u) => ((r4.1.cellAt i hi2).trans (List.getElem?_set_ne (by omega))).trans ((r3.cellAt i hi2).symm.trans ((hb3.cell (p := ⟨g, i, none⟩) hgl).trans h))
      have x2 := K4 _ _ (by omega) (by omega) HK2.out
      have f2 := r4.1.frozenAt (m * 6 + 2)
      have r5 := r4.1.stored (m * 6 + 2) (.int .i64 (j2 : Int))
      have K5 := fun (i : Nat) (u : Value) (hi : i ≠ m * 6 + 2) (hi1 : i ≠ m * 6 + 1) (hi2 : i < qs.length * 6) (h : u2.cell? ⟨g, i, none⟩ = some u) => ((r5.1.cellAt i hi2).trans (List.getElem?_set_ne (by omega))).trans ((r4.1.cellAt i hi2).symm.trans (K4 i u hi1 hi2 h))
      have HL3 := hid (K5 _ _ (by omega) (by omega) (by omega) HK3.out)
      have HL4 := hid (K5 _ _ (by omega) (by omega) (by omega) HK4.out)
      have HL5 := hid (K5 _ _ (by omega) (by omega) (by omega) HK5.out)
      have HR5 := hid r5.1
      have HG5 := hid (grown_same (grown_same (grown_same HG2.out (grown_below' hb3)) r4.2) r5.2)
      clear r3 r4 r5 K4 K5 hb3 hgl HK1 HK2 HK3 HK4 HK5 HR2 HG2 HM1
      go_wp2_with fail
      generalize hU5 : (w3.setCell ⟨g, m * 6 + 1, none⟩ (.string q1)).setCell ⟨g, m * 6 + 2, none⟩ (.int .i64 (j2 : Int)) = u5 at *
      clear hU5 x1 f1 x2 f2
      refine (HM3.out _).mono ?_
      rintro e w6 ⟨rfl, hb6⟩
      have r6 := HR5.out.kept (grown_of_below hb6) (.inr (by simp [Value.ownBlock]))
      have hgl := (HR5.out.lt g rfl).2
      have x3 := (hb6.cell (p := ⟨g, m * 6 + 3, none⟩) hgl).trans HL3.out
      have f3 := r6.frozenAt (m * 6 + 3)
      have r7 := r6.stored (m * 6 + 3) (.string q3)
      have K7 := fun (i : Nat) (u : Value) (hi : i ≠ m * 6 + 3) (hi2 : i < qs.length * 6) (h : u5.cell? ⟨g, i, none⟩ = some u) => ((r7.1.cellAt i hi2).trans (List.getElem?_set_ne (by omega))).trans ((r6.cellAt i hi2).symm.trans ((hb6.cell (p := ⟨g, i, none⟩) hgl).trans h))
      have x4 := K7 _ _ (by omega) (by omega) HL4.out
      have f4 := r7.1.frozenAt (m * 6 + 4)
      have r8 := r7.1.stored (m * 6 + 4) (.bool bb)
      have x5 := ((r8.1.cellAt (m * 6 + 5) (by omega)).trans (List.getElem?_set_ne (by omega))).trans ((r7.1.cellAt (m * 6 + 5) (by omega)).symm.trans (K7 _ _ (by omega) (by omega) HL5.out))
      have G8 := grown_same (grown_same (grown_same HG5.out (grown_below' hb6)) r7.2) r8.2
      have hsn : nt ≠ [] → (mv qs m).ownBlock ≠ some g := fun hn e => HAP.out hn g e rfl
      have hN8 : SumOwn ((w6.setCell ⟨g, m * 6 + 3, none⟩ (.string q3)).setCell ⟨g, m * 6 + 4, none⟩ (.bool bb)) B (mv qs m) nt := HN.out.imp id fun ⟨hn, h⟩ => ⟨hn, nrow_far h G8 (hsn hn)⟩
      have HMS8 := hid (HMS.out _ hN8)
      rw [HVN.out] at HMS8
      have HR8 := hid r8.1
      have HG8 := hid G8
      clear r6 r7 r8 K7 hb6 hgl HL3 HL4 HL5 HR5 HG5 G8 hN8 hsn HMS HM3
      go_wp2_with fail
      refine HMS8.out.mono ?_
      rintro e w9 ⟨rfl, ho9, hg9⟩
      have hn9 : (Value.slice (some ⟨g, 0, none⟩) qs.length cap).ownBlock ≠ sumBlk (Value.slice a4 nt.length c4) nt.length := fun e => by
        unfold sumBlk at e
        split at e
        · cases e
        · next hn0 =>
          rw [← HVN.out] at e
          exact HAP.out (fun h => hn0 (by rw [h]; rfl)) g e.symm rfl
      have r9 := HR8.out.kept hg9 (.inr hn9)
      rw [HS4.out] at r9
      have HR9 := hid r9
      have HO9 := hid ho9
      have HG9 := hid hg9
      clear r9 ho9 hg9 hn9 x3 f3 x4 f4 x5
      go_wp2
      have hTq : ∀ b, some g = some b → NBlk (Value.slice (some ⟨g, 0, none⟩) qs.length cap) qs b := fun b e => .inl e
      have hTm : ∀ b, sumBlk (Value.slice a4 nt.length c4) nt.length = some b → NBlk (Value.slice (some ⟨g, 0, none⟩) qs.length cap) qs b := fun b e => by
        unfold sumBlk at e
        split at e
        · cases e
        · next hn0 => exact .inr ⟨m, hlt, by rw [HNT.out]; exact fun h => hn0 (by rw [h]; rfl), by rw [HVN.out]; exact e⟩
      refine ⟨⟨m + 1, by omega, by go_num, ?_, ?_, (HB.out.trans (KeptN.of_grown HG8.out hTq)).trans (KeptN.of_grown HG9.out hTm)⟩, by simp [intOf]; omega⟩
      · rw [HTK.out, HJ5.out, HJ.out]; congr 1; omega
      · have hs := HX.out
        rw [← hs]
        have hml : m < (mixM k m qs).length := by rw [HLM.out]; exact hlt
        have hlx : ((mixM k m qs).set m (⟨q0, q1, (j2 : Int), q3, bb, marks j5 nt.length⟩, mv qs m)).length = qs.length := by rw [List.length_set, HLM.out]
        have hmvs : ∀ i, mv ((mixM k m qs).set m (⟨q0, q1, (j2 : Int), q3, bb, marks j5 nt.length⟩, mv qs m)) i = mv (mixM k m qs) i := fun i => by
          have := mv_set (mixM k m qs) m i ⟨q0, q1, (j2 : Int), q3, bb, marks j5 nt.length⟩ hml
          rw [HQV.out] at this
          exact this
        have hss : ∀ i, (mp ((mixM k m qs).set m (⟨q0, q1, (j2 : Int), q3, bb, marks j5 nt.length⟩, mv qs m)) i).ss ≠ [] → (mp (mixM k m qs) i).ss ≠ [] := fun i hn => by
          rw [mp_set _ _ _ _ hml] at hn
          by_cases he : i = m
          · rw [if_pos he] at hn
            rw [he, HQP.out, HNT.out]
            intro h
            apply hn
            show marks j5 nt.length = []
            rw [h]; rfl
          · rw [if_neg he] at hn
            exact hn
        refine ⟨?_, fun i hi => ?_, fun i hi hn => ?_, fun i i' hi hi' hne hn hn' => ?_⟩
        · rw [hlx]
          have := HR9.out
          rw [HQV.out] at this
          exact this
        · rw [hlx] at hi
          rw [hmvs, mp_set _ _ _ _ hml]
          by_cases he : i = m
          · rw [if_pos he, he, HQV.out, HVN.out]
            exact HO9.out
          · rw [if_neg he]
            rcases HR.out.sums i (by rw [HLM.out]; exact hi) with h0 | ⟨hn, h0⟩
            · exact .inl h0
            · refine .inr ⟨hn, ?_⟩
              have hA1 := HR.out.apart i (by rw [HLM.out]; exact hi) hn
              have h5 := nrow_far h0 HG8.out (fun e => hA1 g e rfl)
              refine h5.kept HG9.out ?_
              cases hv : (mv (mixM k m qs) i).ownBlock with
              | none => exact .inl rfl
              | some b =>
                refine .inr fun e => ?_
                unfold sumBlk at e
                split at e
                · cases e
                · next hn0 => exact HR.out.apart2 i m (by rw [HLM.out]; exact hi) hml he hn (by rw [HQP.out, HNT.out]; exact fun h => hn0 (by rw [h]; rfl)) b hv (by rw [HQV.out, HVN.out]; exact e.symm)
        · rw [hlx] at hi
          rw [hmvs]
          exact HR.out.apart i (by rw [HLM.out]; exact hi) (hss i hn)
        · rw [hlx] at hi hi'
          rw [hmvs, hmvs]
          exact HR.out.apart2 i i' (by rw [HLM.out]; exact hi) (by rw [HLM.out]; exact hi') hne (hss i hn) (hss i' hn')
    · obtain rfl : m = qs.length := by omega
      rw [mixM_all] at hr
      rw [List.take_length]
      have HR := hid hr
      have HB := hid hb
      clear hr hb
      go_wp2
      go_ret
      exact ⟨rfl, HR.out, HB.out⟩
end Go.Proofs.Ytnpfnafalkejnaa
