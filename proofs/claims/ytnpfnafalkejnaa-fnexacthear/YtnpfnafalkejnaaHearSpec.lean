/- spec.Hear. -/
import Derived.Test.YtnpfnafalkejnaaHearImpl
import Derived.Test.YtnpfnafalkejnaaHearOk
namespace Go.Proofs.Ytnpfnafalkejnaa
open Go.RowKit
theorem held_three {P : Program} {ops : Array Oper} {Q : Exit → Act → World → Prop} {md : Region.Mode} {S : World → Prop} {fuel : Nat} {listed : Array Bool} {a : Act} {w : World} (i j k : Nat) (hr : Region.ready md ops listed = [i, j, k]) (h : wpOp P ops Q i (fun a' w' => S w' ∧ wpAnyH P md ops Q S fuel (listed.setIfInBounds i true) a' w') a w)
    (h' : wpOp P ops Q j (fun a' w' => S w' ∧ wpAnyH P md ops Q S fuel (listed.setIfInBounds j true) a' w') a w) (h'' : wpOp P ops Q k (fun a' w' => S w' ∧ wpAnyH P md ops Q S fuel (listed.setIfInBounds k true) a' w') a w) : wpAnyH P md ops Q S (fuel + 1) listed a w :=
  wpAnyH_all hr (by simp) (by
    intro x hx
    simp only [List.mem_cons, List.not_mem_nil, or_false] at hx
    rcases hx with rfl | rfl | rfl
    · exact h
    · exact h'
    · exact h'')
theorem rdn_row {w : World} {B : Nat} {v : Value} {qs : NV} (hr : w.ownsRow B 25 6 v qs.length (cellsN qs)) (hs : ∀ i, i < qs.length → Reads w (mv qs i) (mp qs i).ss) : RdN w v (qs.map Prod.fst) := by
  have hp : ∀ i, i < qs.length → natt (qs.map Prod.fst) i = mp qs i := fun i hi => by simp [natt, mp, hi]
  have hr' := hr
  rcases hr' with ⟨_, ⟨rfl, h0⟩ | ⟨g, cap, cur, rfl, hb, hg, _⟩⟩
  · have : qs = [] := List.eq_nil_of_length_eq_zero h0
    subst this
    exact RdN.nil _ _ _
  · refine ⟨some ⟨g, 0, none⟩, cap, by simp, fun i hi => ?_⟩
    have hi' : i < qs.length := by simpa using hi
    have hq := cellsN_at qs i hi'
    rw [hp i hi']
    refine ⟨g, 0, mv qs i, rfl, (Array.getElem?_eq_some_iff.1 hg).1, ?_, ?_, ?_, ?_, ?_, ?_, hs i hi'⟩
    · rw [Nat.zero_add, hr.cellAt _ (by omega)]; exact hq.c0
    · rw [Nat.zero_add, hr.cellAt _ (by omega)]; exact hq.c1
    · rw [Nat.zero_add, hr.cellAt _ (by omega)]; exact hq.c2
    · rw [Nat.zero_add, hr.cellAt _ (by omega)]; exact hq.c3
    · rw [Nat.zero_add, hr.cellAt _ (by omega)]; exact hq.c4
    · rw [Nat.zero_add, hr.cellAt _ (by omega)]; exact hq.c5
theorem rdn_one {w : World} {B : Nat} {v : Value} {x : Nt} {u : Value} (hr : w.ownsRow B 25 6 v 1 (nlist x u)) (hs : Reads w u x.ss) : RdN w v [x] :=
  rdn_row (qs := [(x, u)]) (by simpa [cellsN] using hr) (fun i hi => by
    have : i = 0 := by simpa using hi
    subst this
    exact hs)
theorem rdn_two {w : World} {B : Nat} {v : Value} {x y : Nt} {u u' : Value} (hr : w.ownsRow B 25 6 v 2 (nlist x u ++ nlist y u')) (hs : Reads w u x.ss) (hs' : Reads w u' y.ss) : RdN w v [x, y] :=
  rdn_row (qs := [(x, u), (y, u')]) (by simpa [cellsN] using hr) (fun i hi => by
    have hi2 : i < 2 := by simpa using hi
    match i, hi2 with
    | 0, _ => exact hs
    | 1, _ => exact hs')
theorem tell_spec (v : Value) (ts : List ByteArray) (f t : ByteArray) (n : Int) (w : World) (hv : Reads w v ts) (hl : ts.length ≤ 1048576) (hsz : ∀ i, (tv ts i).size ≤ 1048576) (hset : IsSet n ts) :
    Calls Try.prog 6 #[v, .string f, .string t, .int .i64 n] w fun e w' => e = .returned (.agg #[.string f, .string t, .int .i64 ((fromTo f t ts).length : Nat), .string (mixB n (fromTo f t ts)), .bool false, .slice none 0 0]) ∧ Below w.heap.size w w' := by
  refine (specTell_any v ts f t n w hv hl (fun i => by have := hsz i; unfold maxLen; omega)).mono ?_
  rintro e w' ⟨f', t', c, m, rfl, hR, hb⟩
  rcases hR with ⟨_, rfl, rfl, rfl, rfl⟩ | ⟨k, _⟩
  · exact ⟨rfl, hb⟩
  · exact absurd hset k
def SHear (n : Int) (ts : List ByteArray) (x : Nt) (w : World) (e : Ending) (w' : World) : Prop := ∃ vn v1 v2 ns th ou, e = .returned (.tuple #[vn, v1, v2]) ∧ HearR n ts x ns th ou ∧ RdN w' vn ns ∧ Reads w' v1 th ∧ Reads w' v2 ou ∧ Below w.heap.size w w'
set_option maxRecDepth 100000 in
set_option maxHeartbeats 16000000 in
theorem specHear_any (v : Value) (ts : List ByteArray) (f t m : ByteArray) (c : Int) (h : Bool) (vs : Value) (ss : List ByteArray) (n : Int) (w : World) (hv : Reads w v ts) (hl : ts.length ≤ 1048576) (hsz : ∀ i, (tv ts i).size ≤ 1048576) (hs : Reads w vs ss) (hls : ss.length ≤ 1048576) (hss : ∀ i, (tv ss i).size ≤ 1048576) :
    Calls Try.prog 15 #[v, .agg #[.string f, .string t, .int .i64 c, .string m, .bool h, vs], .int .i64 n] w fun e w' => SHear n ts ⟨f, t, c, m, h, ss⟩ w e w' := by
  obtain ⟨av, cv, hav, _⟩ := hv.form
  obtain ⟨asx, csx, has, _⟩ := hs.form
  subst hav has
  obtain ⟨i0, hi0, hz0, hz1, hz2⟩ := info_parts Try.infoNote
  have hA := ((Below.refl w.heap.size w).alloc (Nat.le_refl _) (.cells #[.string f, .string t, .int .i64 c, .string m, .bool h, .slice asx ss.length csx] 25)).alloc (by simp) (.cells #[] 25)
  have hs0 : ((w.alloc (.cells #[.string f, .string t, .int .i64 c, .string m, .bool h, .slice asx ss.length csx] 25)).alloc (.cells #[] 25)).heap.size = w.heap.size + 2 := by rw [World.size_alloc, World.size_alloc]
  have HOK := hid (l6Ok_any (.slice av ts.length cv) ts f t m c h (.slice asx ss.length csx) ss n _ (hv.below hA) hl hsz (hs.below hA) hls hss)
  have HTH := hid fun W k => l6There_any (.slice av ts.length cv) ts f t W k hl
  have HTL := hid fun x y W k (hset : IsSet n ts) => tell_spec (.slice av ts.length cv) ts x y n W k hl hsz hset
  have HMN := hid fun p q a b W (h1 : Reads W p a) (h2 : Reads W q b) l1 l2 => l6Minus_any p q a b W h1 h2 l1 l2
  have HV := hid (hv.below hA)
  have HS := hid (hs.below hA)
  have HN := hid ((Blk.new w 25 #[.string f, .string t, .int .i64 c, .string m, .bool h, .slice asx ss.length csx]).alloc (.cells #[] 25))
  have hR0 := World.ownsRow_made (base := w.heap.size + 1) (e := 25) (size := 6) (w.alloc (.cells #[.string f, .string t, .int .i64 c, .string m, .bool h, .slice asx ss.length csx] 25)) #[] 0 (by simp) (by simp [maxLen]) rfl
  rw [World.size_alloc] at hR0
  have HR0 := hid hR0
  have HA := hid hA
  clear hA hv hs hsz hss hR0
  go_enter Try.func15, Try.ntmps15
  go_wp2_with fail
  refine HOK.out.mono ?_
  rintro e w1 ⟨b, rfl, hb, hb1⟩
  have N1 := HN.out.below hb1
  have hs1 := hb1.size
  rw [hs0] at hs1
  have B1 := HA.out.trans (hb1.mono (by rw [hs0]; omega))
  have HB1 := hid B1
  have HV1 := hid (HV.out.below hb1)
  have HS1 := hid (HS.out.below hb1)
  have HR1 := hid (HR0.out.kept (grown_of_below hb1) (.inr (by simp [Value.ownBlock])))
  have HN1 := hid N1
  cases b with
  | false =>
    have HF : Hid (HearR n ts ⟨f, t, c, m, h, ss⟩ [] [] []) := .inl ⟨fun k => (by have := hb.2 k; cases this), rfl, rfl, rfl⟩
    have HB2 := hid ((B1.alloc B1.size (.cells #[] 9)).alloc (by simp; omega) (.cells #[] 9))
    clear hb hb1 N1 B1
    go_wp2
    go_ret3
    exact ⟨_, _, _, [], [], [], rfl, HF.out, RdN.nil _ _ _, .inl ⟨rfl, _, _, rfl⟩, .inl ⟨rfl, _, _, rfl⟩, HB2.out⟩
  | true =>
  have HSET := hid (hb.1 rfl).1
  have HOKN := hid (hb.1 rfl)
  have hl500 : (fromTo f t ts).length ≤ 500 := Nat.le_trans (fromTo_len _ _ _) HSET.out.2.1
  have c0 : w1.cell? ⟨w.heap.size, 0, none⟩ = some (.string f) := N1.cell 0
  have c1 : w1.cell? ⟨w.heap.size, 1, none⟩ = some (.string t) := N1.cell 1
  clear hb hb1 N1 B1
  go_wp2_with fail
  refine (HTH.out _ HV1.out).mono ?_
  rintro e w2 ⟨v2, rfl, ho2, hb2⟩
  have N2 := HN1.out.below hb2
  have hs2 := hb2.size
  have HB2 := hid (HB1.out.trans (hb2.mono HB1.out.size))
  have HV2 := hid (HV1.out.below hb2)
  have HS2 := hid (HS1.out.below hb2)
  have HR2 := hid (HR1.out.kept (grown_of_below hb2) (.inr (by simp [Value.ownBlock])))
  have HN2 := hid N2
  have HRT := hid (Reads.of_row ho2)
  have HNEQ : Hid (∀ g, v2.ownBlock = some g → g ≠ w.heap.size + 1) := fun g e => by have := (ho2.lt g e).1; omega
  obtain ⟨a2, k2, rfl, _⟩ := row_form ho2
  have d4 : w2.cell? ⟨w.heap.size, 4, none⟩ = some (.bool h) := N2.cell 4
  clear hb2 ho2 N2 c0 c1
  cases h with
  | true =>
    have HF : Hid (HearR n ts ⟨f, t, c, m, true, ss⟩ [] (minusL ss (fromTo f t ts)) (minusL (fromTo f t ts) ss)) := .inr (.inl ⟨HOKN.out, rfl, rfl, rfl, rfl⟩)
    have hS0 : w2.drew.cell? ⟨w.heap.size, 5, none⟩ = some (.slice asx ss.length csx) := HN2.out.cell 5
    have hec := enters_of Try.func30 (by kernel_rfl) rfl
    have HBD : Hid (Below w2.heap.size w2 w2.drew) := below_drewN (Below.refl _ _) 1
    go_wp2_with fail
    refine wp_region_held (S := fun w' => w'.cell? ⟨w.heap.size, 5, none⟩ = some (.slice asx ss.length csx)) (by kernel_rfl) ?_
    change wpAnyH _ _ _ _ _ _ _ _ (World.drew _)
    refine wpAnyH_take (i := 0) (v := .slice (some ⟨w.heap.size + 1, 0, none⟩) 0 0) rfl (by kernel_rfl) (by kernel_rfl) (by kernel_rfl) (fun _ _ _ h => h) (.inl ⟨rfl, fun w' hS => by obtain s1 := hS; go_simp⟩) hS0 ?_
    refine wpAnyH_take (i := 1) (v := .pointer (some ⟨w.heap.size, 5, none⟩)) rfl (by kernel_rfl) (by kernel_rfl) (by kernel_rfl) (fun _ _ _ h => h) (.inl ⟨rfl, fun w' hS => by obtain s1 := hS; go_simp⟩) hS0 ?_
    refine wpAnyH_take (i := 2) (v := .slice asx ss.length csx) rfl (by kernel_rfl) (by kernel_rfl) (by kernel_rfl) (fun _ _ _ h => h) (.inl ⟨rfl, fun w' hS => by obtain s1 := hS; go_simp⟩) hS0 ?_
    refine wpAnyH_take (i := 3) (v := .slice a2 (fromTo f t ts).length k2) rfl (by kernel_rfl) (by kernel_rfl) (by kernel_rfl) (fun _ _ _ h => h) (.inl ⟨rfl, fun w' hS => by obtain s1 := hS; go_simp⟩) hS0 ?_
    refine wpAnyH_take (i := 5) (v := .slice a2 (fromTo f t ts).length k2) rfl (by kernel_rfl) (by kernel_rfl) (by kernel_rfl) (fun _ _ _ h => h) (.inl ⟨rfl, fun w' hS => by obtain s1 := hS; go_simp⟩) hS0 ?_
    refine wpAnyH_take (i := 6) (v := .pointer (some ⟨w.heap.size, 5, none⟩)) rfl (by kernel_rfl) (by kernel_rfl) (by kernel_rfl) (fun _ _ _ h => h) (.inl ⟨rfl, fun w' hS => by obtain s1 := hS; go_simp⟩) hS0 ?_
    refine wpAnyH_take (i := 7) (v := .slice asx ss.length csx) rfl (by kernel_rfl) (by kernel_rfl) (by kernel_rfl) (fun _ _ _ h => h) (.inl ⟨rfl, fun w' hS => by obtain s1 := hS; go_simp⟩) hS0 ?_
    refine held_one 4 (by kernel_rfl) (op_calls (f := 30) (args := #[.slice asx ss.length csx, .slice a2 (fromTo f t ts).length k2]) rfl rfl (by go_simp) (HMN.out _ _ _ _ _ (HS2.out.below HBD.out) (HRT.out.below HBD.out) hls (by omega)) ?_)
    rintro e w3 ⟨v3, rfl, ho3, hb3⟩
    have hb3' : Below w2.heap.size w2 w3 := ⟨hb3.os, hb3.tape, hb3.output, hb3.size, hb3.block⟩
    have hS1 : w3.cell? ⟨w.heap.size, 5, none⟩ = some (.slice asx ss.length csx) := (HN2.out.below hb3').cell 5
    refine ⟨_, rfl, hS1, ?_⟩
    refine held_one 8 (by kernel_rfl) (op_calls (f := 30) (args := #[.slice a2 (fromTo f t ts).length k2, .slice asx ss.length csx]) rfl rfl (by go_simp) (HMN.out _ _ _ _ _ (HRT.out.below hb3') (HS2.out.below hb3') (by omega) hls) ?_)
    rintro e w4 ⟨v4, rfl, ho4, hb4⟩
    have hS2 : w4.cell? ⟨w.heap.size, 5, none⟩ = some (.slice asx ss.length csx) := ((HN2.out.below hb3').below hb4).cell 5
    have HB4 := hid (HB2.out.trans ((hb3'.trans (hb4.mono hb3'.size)).mono HB2.out.size))
    have HR3 := hid ((Reads.of_row ho3).below hb4)
    have HR4 := hid (Reads.of_row ho4)
    refine ⟨_, rfl, hS2, ?_⟩
    obtain ⟨a3, k3, rfl, _⟩ := row_form ho3
    obtain ⟨a4, k4, rfl, _⟩ := row_form ho4
    refine wpAnyH_take (i := 9) (v := .slice (some ⟨w.heap.size + 1, 0, none⟩) 0 0) rfl (by kernel_rfl) (by kernel_rfl) (by kernel_rfl) (fun _ _ _ h => h) (.inl ⟨rfl, fun w' hS => by obtain s1 := hS; go_simp⟩) hS2 ?_
    refine wpAnyH_take (i := 10) (v := .slice a3 (minusL ss (fromTo f t ts)).length k3) rfl (by kernel_rfl) (by kernel_rfl) (by kernel_rfl) (fun _ _ _ h => h) (.inl ⟨rfl, fun w' hS => by obtain s1 := hS; go_simp⟩) hS2 ?_
    refine wpAnyH_take (i := 11) (v := .slice a4 (minusL (fromTo f t ts) ss).length k4) rfl (by kernel_rfl) (by kernel_rfl) (by kernel_rfl) (fun _ _ _ h => h) (.inl ⟨rfl, fun w' hS => by obtain s1 := hS; go_simp⟩) hS2 ?_
    refine wpAnyH_done (by kernel_rfl) ?_ _
    clear hS0 hS1 hS2 hb3 hb3' hb4 ho3 ho4 d4
    go_simp
    go_wp2
    go_ret3
    exact ⟨_, _, _, [], _, _, rfl, HF.out, RdN.nil _ _ _, HR3.out, HR4.out, HB4.out⟩
  | false =>
    have d0 : w2.cell? ⟨w.heap.size, 0, none⟩ = some (.string f) := HN2.out.cell 0
    have d1 : w2.cell? ⟨w.heap.size, 1, none⟩ = some (.string t) := HN2.out.cell 1
    have HR1' : Hid (∀ ns, ReplyR n ts ⟨f, t, c, m, false, ss⟩ ns → HearR n ts ⟨f, t, c, m, false, ss⟩ ns [] []) := fun ns k => .inr (.inr ⟨HOKN.out, rfl, k, rfl, rfl⟩)
    go_wp2_with fail
    refine (HTL.out f t _ HV2.out HSET.out).mono ?_
    rintro e w3 ⟨rfl, hb3⟩
    have HFT : Hid (SameN n ts ⟨f, t, c, m, false, ss⟩ ↔ ((fromTo f t ts).length : Int) = c ∧ mixB n (fromTo f t ts) = m) := Iff.rfl
    have HFEW : Hid (FewN ts ⟨f, t, c, m, false, ss⟩ ↔ c ≤ 4 ∨ (fromTo f t ts).length ≤ 4) := Iff.rfl
    have HA2 : Hid (¬ SameN n ts ⟨f, t, c, m, false, ss⟩ → FewN ts ⟨f, t, c, m, false, ss⟩ → ReplyR n ts ⟨f, t, c, m, false, ss⟩ [⟨f, t, 0, ⟨#[]⟩, true, fromTo f t ts⟩]) := fun a b => .inr (.inl ⟨a, b, rfl⟩)
    have HA3 : Hid (¬ SameN n ts ⟨f, t, c, m, false, ss⟩ → ¬ FewN ts ⟨f, t, c, m, false, ss⟩ → ReplyR n ts ⟨f, t, c, m, false, ss⟩ [tellN n ts f (tv (fromTo f t ts) ((fromTo f t ts).length / 2)), tellN n ts (tv (fromTo f t ts) ((fromTo f t ts).length / 2)) t]) := fun a b => .inr (.inr ⟨a, b, rfl⟩)
    generalize hmx : mixB n (fromTo f t ts) = mx at *
    generalize hfs : fromTo f t ts = fs at *
    clear hmx hfs
    have N3 := HN2.out.below hb3
    have hs3 := hb3.size
    have HR3 := hid ((HR2.out.kept (grown_of_below hb3) (.inr (by simp [Value.ownBlock]))).alloc (.cells #[.string f, .string t, .int .i64 (fs.length : Nat), .string mx, .bool false, .slice none 0 0] 25))
    have HB3 := hid ((HB2.out.trans (hb3.mono HB2.out.size)).alloc (by omega) (.cells #[.string f, .string t, .int .i64 (fs.length : Nat), .string mx, .bool false, .slice none 0 0] 25))
    have HRT3 := hid ((HRT.out.below hb3).below ((Below.refl w3.heap.size w3).alloc (Nat.le_refl _) (.cells #[.string f, .string t, .int .i64 (fs.length : Nat), .string mx, .bool false, .slice none 0 0] 25)))
    have HV3 := hid ((HV2.out.below hb3).below ((Below.refl w3.heap.size w3).alloc (Nat.le_refl _) (.cells #[.string f, .string t, .int .i64 (fs.length : Nat), .string mx, .bool false, .slice none 0 0] 25)))
    have HN3 := hid (N3.alloc (.cells #[.string f, .string t, .int .i64 (fs.length : Nat), .string mx, .bool false, .slice none 0 0] 25))
    have e0 : ∀ o, (w3.alloc o).cell? ⟨w.heap.size, 0, none⟩ = some (.string f) := fun o => (N3.alloc o).cell 0
    have e1 : ∀ o, (w3.alloc o).cell? ⟨w.heap.size, 1, none⟩ = some (.string t) := fun o => (N3.alloc o).cell 1
    have e2 : ∀ o, (w3.alloc o).cell? ⟨w.heap.size, 2, none⟩ = some (.int .i64 c) := fun o => (N3.alloc o).cell 2
    have e3 : ∀ o, (w3.alloc o).cell? ⟨w.heap.size, 3, none⟩ = some (.string m) := fun o => (N3.alloc o).cell 3
    clear hb3 N3 d0 d1 d4
    by_cases hsame : (fs.length : Int) = c ∧ mx = m
    · have HY := hid (HR1'.out [] (.inl ⟨HFT.out.2 hsame, rfl⟩))
      obtain ⟨hs1', hs2'⟩ := hsame
      subst hs1' hs2'
      have HB4 := hid ((HB3.out.alloc HB3.out.size (.cells #[] 9)).alloc (by simp; omega) (.cells #[] 9))
      go_wp2
      go_ret3
      exact ⟨_, _, _, [], [], [], rfl, HY.out, RdN.nil _ _ _, .inl ⟨rfl, _, _, rfl⟩, .inl ⟨rfl, _, _, rfl⟩, HB4.out⟩
    have HNS : Hid (¬ SameN n ts ⟨f, t, c, m, false, ss⟩) := fun k => hsame (HFT.out.1 k)
    go_upto_region 8 with fail
    go_cut [57] from 46 to 102 (fun s57 wx => s57 = .bool false ∧ wx = w3.alloc (.cells #[.string f, .string t, .int .i64 (fs.length : Nat), .string mx, .bool false, .slice none 0 0] 25))
    case first =>
      by_cases hcnt : (fs.length : Int) = c
      · have hmx : (mx.toList == m.toList) = false := by
          rw [beq_eq_false_iff_ne]
          exact fun e => hsame ⟨hcnt, text_eq e⟩
        subst hcnt
        clear hsame
        go_wp2_with fail
        go_meet
        exact ⟨rfl, rfl⟩
      · have hcb : ((fs.length : Int) == c) = false := by rw [beq_eq_false_iff_ne]; exact hcnt
        clear hsame hcnt
        go_wp2_with fail
        go_meet
        exact ⟨rfl, rfl⟩
    case rest =>
      obtain ⟨rfl, rfl⟩ := hcut
      clear hsame
      obtain ⟨w4, hw4⟩ : ∃ w4, w4 = w3.alloc (.cells #[.string f, .string t, .int .i64 (fs.length : Nat), .string mx, .bool false, .slice none 0 0] 25) := ⟨_, rfl⟩
      have hs4 : w3.heap.size + 1 ≤ w4.heap.size := by rw [hw4, World.size_alloc]; exact Nat.le_refl _
      have f0 : w4.cell? ⟨w.heap.size, 0, none⟩ = some (.string f) := by rw [hw4]; exact e0 _
      have f1 : w4.cell? ⟨w.heap.size, 1, none⟩ = some (.string t) := by rw [hw4]; exact e1 _
      have f2 : w4.cell? ⟨w.heap.size, 2, none⟩ = some (.int .i64 c) := by rw [hw4]; exact e2 _
      rw [← hw4] at HR3 HB3 HRT3 HV3 HN3 ⊢
      clear e0 e1 e2 e3 hw4
      by_cases hfew : c ≤ 4 ∨ fs.length ≤ 4
      · have HY := hid (HR1'.out _ (HA2.out HNS.out (HFEW.out.2 hfew)))
        have LEAF : Hid (∀ v' w5, w5.ownsRow (w.heap.size + 1) 25 6 v' 1 [.string f, .string t, .int .i64 0, .string ⟨#[]⟩, .bool true, .slice a2 fs.length k2] → (w4.alloc (.cells #[.string f, .string t, .int .i64 0, .string ⟨#[]⟩, .bool true, .slice a2 fs.length k2] 25)).grownBy w5 (some (w.heap.size + 1)) → (∀ g, (Value.slice a2 fs.length k2).ownBlock = some g → g ≠ w.heap.size + 1) → RdN ((w5.alloc (.cells #[] 9)).alloc (.cells #[] 9)) v' [⟨f, t, 0, ⟨#[]⟩, true, fs⟩] ∧ Below w.heap.size w ((w5.alloc (.cells #[] 9)).alloc (.cells #[] 9))) := fun v' w5 ho hg hne => by
          have hb5 : Below w5.heap.size w5 ((w5.alloc (.cells #[] 9)).alloc (.cells #[] 9)) := ((Below.refl w5.heap.size w5).alloc (Nat.le_refl _) _).alloc (by simp) _
          have hr5 : Reads w5 (.slice a2 fs.length k2) fs := by
            have hr4 := HRT3.out.below ((Below.refl w4.heap.size w4).alloc (Nat.le_refl _) (.cells #[.string f, .string t, .int .i64 0, .string ⟨#[]⟩, .bool true, .slice a2 fs.length k2] 25))
            rcases hr4 with k | ⟨b, off, cap, e, hb, hc⟩
            · exact .inl k
            · refine .inr ⟨b, off, cap, e, Nat.lt_of_lt_of_le hb hg.size, fun j hj => (hg.cell_far ⟨b, off + j, none⟩ hb (fun e2 => ?_)).trans (hc j hj)⟩
              exact hne b (by rw [e]; rfl) (Option.some.inj e2)
          exact ⟨(rdn_one (x := ⟨f, t, 0, ⟨#[]⟩, true, fs⟩) ho hr5).below hb5, ((HB3.out.alloc HB3.out.size _).grown hg (by simp; omega) (fun g e => by cases e; omega)).trans (hb5.mono (by have := hg.size; rw [World.size_alloc] at this; omega))⟩
        have HNE : Hid (∀ g, (Value.slice a2 fs.length k2).ownBlock = some g → g ≠ w.heap.size + 1) := HNEQ.out
        by_cases h4 : c ≤ 4
        · clear hfew
          go_wp2_with (at_builtin; refine wpList_append_own _ rfl _ _ 34 rfl (w.heap.size + 1) 25 i0 (.agg #[.string ⟨#[]⟩, .string ⟨#[]⟩, .int .i64 0, .string ⟨#[]⟩, .bool false, .slice none 0 0]) 6 88 Try.underlying34 hi0 hz0 hz1 hz2 rfl (by decide) (.slice (some ⟨w.heap.size + 1, 0, none⟩) 0 0) 0 [] rfl (HR3.out.alloc _) ⟨_, 0, none⟩ 1 1 [.string f, .string t, .int .i64 0, .string ⟨#[]⟩, .bool true, .slice a2 fs.length k2] rfl rfl (six_new _ _ _ _ _ _ _ _) (by simp [Value.oneCell']) (by unfold maxLen; omega) (by omega) (by simp; omega) ?_; intro v' w5 hown' hgrow _)
          have hL := LEAF.out v' w5 (by simpa using hown') hgrow HNE.out
          go_ret3
          exact ⟨_, _, _, _, [], [], rfl, HY.out, hL.1, .inl ⟨rfl, _, _, rfl⟩, .inl ⟨rfl, _, _, rfl⟩, hL.2⟩
        · have h5 : fs.length ≤ 4 := by omega
          clear hfew
          go_wp2_with (at_builtin; refine wpList_append_own _ rfl _ _ 34 rfl (w.heap.size + 1) 25 i0 (.agg #[.string ⟨#[]⟩, .string ⟨#[]⟩, .int .i64 0, .string ⟨#[]⟩, .bool false, .slice none 0 0]) 6 88 Try.underlying34 hi0 hz0 hz1 hz2 rfl (by decide) (.slice (some ⟨w.heap.size + 1, 0, none⟩) 0 0) 0 [] rfl (HR3.out.alloc _) ⟨_, 0, none⟩ 1 1 [.string f, .string t, .int .i64 0, .string ⟨#[]⟩, .bool true, .slice a2 fs.length k2] rfl rfl (six_new _ _ _ _ _ _ _ _) (by simp [Value.oneCell']) (by unfold maxLen; omega) (by omega) (by simp; omega) ?_; intro v' w5 hown' hgrow _)
          have hL := LEAF.out v' w5 (by simpa using hown') hgrow HNE.out
          go_ret3
          exact ⟨_, _, _, _, [], [], rfl, HY.out, hL.1, .inl ⟨rfl, _, _, rfl⟩, .inl ⟨rfl, _, _, rfl⟩, hL.2⟩
      have HNF : Hid (¬ FewN ts ⟨f, t, c, m, false, ss⟩) := fun k => hfew (HFEW.out.1 k)
      have HY := hid (HR1'.out _ (HA3.out HNS.out HNF.out))
      have h4 : ¬ (c ≤ 4) := fun h => hfew (.inl h)
      have h5 : ¬ (fs.length ≤ 4) := fun h => hfew (.inr h)
      clear hfew
      have hx4 : ∃ b off, a2 = some ⟨b, off, none⟩ ∧ b < w4.heap.size ∧ w4.cell? ⟨b, off + fs.length / 2, none⟩ = some (.string (tv fs (fs.length / 2))) := by
        rcases HRT3.out with ⟨h, _⟩ | ⟨b, off, cap, e, hl, hc⟩
        · subst h; simp at h5
        · cases e; exact ⟨b, off, rfl, hl, hc _ (by omega)⟩
      obtain ⟨b5, o5, rfl, hb5, e5⟩ := hx4
      have hdl : fs.length / 2 < fs.length := by omega
      have htd : (fs.length : Int).tdiv 2 = ((fs.length / 2 : Nat) : Int) := by rw [Int.tdiv_eq_ediv_of_nonneg (by omega)]; omega
      have HTA := hid fun W k => HTL.out f (tv fs (fs.length / 2)) W k HSET.out
      have HTB := hid fun W k => HTL.out (tv fs (fs.length / 2)) t W k HSET.out
      generalize tv fs (fs.length / 2) = md at *
      generalize hfl2 : fs.length / 2 = fh at *
      have HXA : Hid (tellN n ts f md = ⟨f, md, ((fromTo f md ts).length : Nat), mixB n (fromTo f md ts), false, []⟩) := rfl
      have HXB : Hid (tellN n ts md t = ⟨md, t, ((fromTo md t ts).length : Nat), mixB n (fromTo md t ts), false, []⟩) := rfl
      generalize hma : mixB n (fromTo f md ts) = ma at *
      generalize hmb : mixB n (fromTo md t ts) = mb at *
      generalize hla : (fromTo f md ts).length = la at *
      generalize hlb : (fromTo md t ts).length = lb at *
      clear hma hmb hla hlb hfl2
      have HTW : Hid (∀ (W : World) v', W.ownsRow (w.heap.size + 1) 25 6 v' 2 [.string f, .string md, .int .i64 (la : Nat), .string ma, .bool false, .slice none 0 0, .string md, .string t, .int .i64 (lb : Nat), .string mb, .bool false, .slice none 0 0] → RdN W v' [tellN n ts f md, tellN n ts md t]) := fun W v' k => by
        rw [HXA.out, HXB.out]
        exact rdn_two (x := ⟨f, md, (la : Nat), ma, false, []⟩) (y := ⟨md, t, (lb : Nat), mb, false, []⟩) (u := .slice none 0 0) (u' := .slice none 0 0) k (.inl ⟨rfl, none, 0, rfl⟩) (.inl ⟨rfl, none, 0, rfl⟩)
      have HSC : Hid (∀ x, Below (w.heap.size + 1) w4 x → x.cell? ⟨w.heap.size, 0, none⟩ = some (.string f) ∧ x.cell? ⟨w.heap.size, 1, none⟩ = some (.string t)) := fun x hb => ⟨(hb.cell (p := ⟨w.heap.size, 0, none⟩) (Nat.lt_succ_self _)).trans f0, (hb.cell (p := ⟨w.heap.size, 1, none⟩) (Nat.lt_succ_self _)).trans f1⟩
      have hec := enters_of Try.func6 (by kernel_rfl) rfl
      have hwl : w.heap.size + 1 ≤ w4.heap.size := by omega
      go_wp2_with fail
      refine wp_region_held (S := fun x => (x.cell? ⟨w.heap.size, 0, none⟩ = some (.string f) ∧ x.cell? ⟨w.heap.size, 1, none⟩ = some (.string t))) (by kernel_rfl) ?_
      change wpAnyH _ _ _ _ _ _ _ _ (World.drew _)
      obtain ⟨x0, hx0⟩ : ∃ x0, x0 = w4.drew := ⟨_, rfl⟩
      have BL : Below w4.heap.size w4 x0 := by rw [hx0]; exact below_drewN (Below.refl _ _) 1
      have hS0 := HSC.out x0 (BL.mono hwl)
      rw [← hx0]
      clear hx0 e5 f2
      refine wpAnyH_take (i := 0) (v := .slice (some ⟨w.heap.size + 1, 0, none⟩) 0 0) rfl (by kernel_rfl) (by kernel_rfl) (by kernel_rfl) (fun _ _ _ h => h) (.inl ⟨rfl, fun w' hS => by obtain ⟨s1, s2⟩ := hS; go_simp⟩) hS0 ?_
      refine wpAnyH_take (i := 1) (v := .slice av ts.length cv) rfl (by kernel_rfl) (by kernel_rfl) (by kernel_rfl) (fun _ _ _ h => h) (.inl ⟨rfl, fun w' hS => by obtain ⟨s1, s2⟩ := hS; go_simp⟩) hS0 ?_
      refine wpAnyH_take (i := 2) (v := .pointer (some ⟨w.heap.size, 0, none⟩)) rfl (by kernel_rfl) (by kernel_rfl) (by kernel_rfl) (fun _ _ _ h => h) (.inl ⟨rfl, fun w' hS => by obtain ⟨s1, s2⟩ := hS; go_simp⟩) hS0 ?_
      refine wpAnyH_take (i := 3) (v := .string f) rfl (by kernel_rfl) (by kernel_rfl) (by kernel_rfl) (fun _ _ _ h => h) (.inl ⟨rfl, fun w' hS => by obtain ⟨s1, s2⟩ := hS; go_simp⟩) hS0 ?_
      refine wpAnyH_take (i := 4) (v := .string md) rfl (by kernel_rfl) (by kernel_rfl) (by kernel_rfl) (fun _ _ _ h => h) (.inl ⟨rfl, fun w' hS => by obtain ⟨s1, s2⟩ := hS; go_simp⟩) hS0 ?_
      refine wpAnyH_take (i := 5) (v := .int .i64 n) rfl (by kernel_rfl) (by kernel_rfl) (by kernel_rfl) (fun _ _ _ h => h) (.inl ⟨rfl, fun w' hS => by obtain ⟨s1, s2⟩ := hS; go_simp⟩) hS0 ?_
      refine wpAnyH_take (i := 7) (v := .slice av ts.length cv) rfl (by kernel_rfl) (by kernel_rfl) (by kernel_rfl) (fun _ _ _ h => h) (.inl ⟨rfl, fun w' hS => by obtain ⟨s1, s2⟩ := hS; go_simp⟩) hS0 ?_
      refine wpAnyH_take (i := 8) (v := .string md) rfl (by kernel_rfl) (by kernel_rfl) (by kernel_rfl) (fun _ _ _ h => h) (.inl ⟨rfl, fun w' hS => by obtain ⟨s1, s2⟩ := hS; go_simp⟩) hS0 ?_
      refine wpAnyH_take (i := 9) (v := .pointer (some ⟨w.heap.size, 1, none⟩)) rfl (by kernel_rfl) (by kernel_rfl) (by kernel_rfl) (fun _ _ _ h => h) (.inl ⟨rfl, fun w' hS => by obtain ⟨s1, s2⟩ := hS; go_simp⟩) hS0 ?_
      refine wpAnyH_take (i := 10) (v := .string t) rfl (by kernel_rfl) (by kernel_rfl) (by kernel_rfl) (fun _ _ _ h => h) (.inl ⟨rfl, fun w' hS => by obtain ⟨s1, s2⟩ := hS; go_simp⟩) hS0 ?_
      refine wpAnyH_take (i := 11) (v := .int .i64 n) rfl (by kernel_rfl) (by kernel_rfl) (by kernel_rfl) (fun _ _ _ h => h) (.inl ⟨rfl, fun w' hS => by obtain ⟨s1, s2⟩ := hS; go_simp⟩) hS0 ?_
      clear hS0
      refine held_three 6 15 16 (by kernel_rfl) ?_ ?_ ?_
      · refine op_calls (f := 6) (args := #[.slice av ts.length cv, .string f, .string md, .int .i64 n]) rfl rfl (by go_simp) (HTA.out _ (HV3.out.below BL)) ?_
        rintro e x1 ⟨rfl, hbx⟩
        have BL := BL.trans (hbx.mono BL.size)
        refine ⟨_, rfl, HSC.out _ (BL.mono hwl), ?_⟩
        clear hbx
        refine held_three 12 15 16 (by kernel_rfl) ?_ ?_ ?_
        · refine op_calls (f := 6) (args := #[.slice av ts.length cv, .string md, .string t, .int .i64 n]) rfl rfl (by go_simp) (HTB.out _ (HV3.out.below BL)) ?_
          rintro e x2 ⟨rfl, hbx⟩
          have BL := BL.trans (hbx.mono BL.size)
          refine ⟨_, rfl, HSC.out _ (BL.mono hwl), ?_⟩
          clear hbx
          refine held_three 13 15 16 (by kernel_rfl) ?_ ?_ ?_
          · obtain ⟨x3, hnx⟩ : ∃ y, y = x2.alloc (.cells #[.string f, .string md, .int .i64 (la : Nat), .string ma, .bool false, .slice none 0 0, .string md, .string t, .int .i64 (lb : Nat), .string mb, .bool false, .slice none 0 0] 25) := ⟨_, rfl⟩
            have K13 : Blk x3 x2.heap.size 25 #[.string f, .string md, .int .i64 (la : Nat), .string ma, .bool false, .slice none 0 0, .string md, .string t, .int .i64 (lb : Nat), .string mb, .bool false, .slice none 0 0] := by rw [hnx]; exact Blk.new _ _ _
            have BL : Below w4.heap.size w4 x3 := by rw [hnx]; exact BL.alloc BL.size _
            refine op_value (v := .slice (some ⟨x2.heap.size, 0, none⟩) 2 2) (w' := x3) rfl rfl (by rw [hnx]; go_simp) ⟨HSC.out _ (BL.mono hwl), ?_⟩
            clear hnx
            obtain ⟨z13, hz13⟩ : ∃ z, z = x2.heap.size := ⟨_, rfl⟩
            rw [← hz13] at K13 ⊢
            clear hz13
            refine held_three 14 15 16 (by kernel_rfl) ?_ ?_ ?_
            · have R14 := HR3.out.kept (grown_of_below BL) (.inr (by simp [Value.ownBlock]))
              refine op_wp rfl rfl (wp_append_own x3 (.tmp 86) (.tmp 99) 34 rfl (w.heap.size + 1) 25 i0 (.agg #[.string ⟨#[]⟩, .string ⟨#[]⟩, .int .i64 0, .string ⟨#[]⟩, .bool false, .slice none 0 0]) 6 88 Try.underlying34 hi0 hz0 hz1 hz2 rfl (by decide) (.slice (some ⟨w.heap.size + 1, 0, none⟩) 0 0) 0 [] (by go_simp) R14 ⟨z13, 0, none⟩ 2 2 [.string f, .string md, .int .i64 (la : Nat), .string ma, .bool false, .slice none 0 0, .string md, .string t, .int .i64 (lb : Nat), .string mb, .bool false, .slice none 0 0] (by go_simp) rfl (fun j u hu => by
                have hj : (⟨z13, 0, none⟩ : Addr).add j = ⟨z13, j, none⟩ := by simp [Addr.add]; intro h; exact h.symm
                rw [hj, K13.cell]
                simpa using hu) (by simp [Value.oneCell']) (by unfold maxLen; omega) (by omega) (by have := BL.size; omega) ?_)
              intro v14 x4 O14 hg14 _
              have BW : Below (w.heap.size + 1) w4 x4 := (BL.mono hwl).grown hg14 (by have := BL.size; omega) (fun g e => by cases e; exact Nat.le_refl _)
              obtain ⟨a14, c14, rfl⟩ := nrow_any O14
              refine ⟨HSC.out _ BW, ?_⟩
              clear R14 hg14 K13 BL
              have hS := HSC.out x4 BW
              refine wpAnyH_take (i := 17) (v := .slice a14 2 c14) rfl (by kernel_rfl) (by kernel_rfl) (by kernel_rfl) (fun _ _ _ h => h) (.inl ⟨rfl, fun w' hS => by obtain ⟨s1, s2⟩ := hS; go_simp⟩) hS ?_
              clear hS
              refine held_two 15 16 (by kernel_rfl) ?_ ?_
              · obtain ⟨x5, hnx⟩ : ∃ y, y = x4.alloc (.cells #[] 9) := ⟨_, rfl⟩
                have BW : Below (w.heap.size + 1) w4 x5 := by rw [hnx]; exact BW.alloc (by have := BW.size; omega) _
                have O14 := Below.row (show Below x4.heap.size x4 x5 by rw [hnx]; exact (Below.refl _ _).alloc (Nat.le_refl _) _) O14
                refine op_value (v := .slice (some ⟨x4.heap.size, 0, none⟩) 0 0) (w' := x5) rfl rfl (by rw [hnx]; go_simp) ⟨HSC.out _ BW, ?_⟩
                clear hnx
                obtain ⟨z15, hz15⟩ : ∃ z, z = x4.heap.size := ⟨_, rfl⟩
                rw [← hz15]
                clear hz15
                have hS := HSC.out x5 BW
                refine wpAnyH_take (i := 18) (v := .slice (some ⟨z15, 0, none⟩) 0 0) rfl (by kernel_rfl) (by kernel_rfl) (by kernel_rfl) (fun _ _ _ h => h) (.inl ⟨rfl, fun w' hS => by obtain ⟨s1, s2⟩ := hS; go_simp⟩) hS ?_
                clear hS
                refine held_one 16 (by kernel_rfl) ?_
                obtain ⟨x6, hnx⟩ : ∃ y, y = x5.alloc (.cells #[] 9) := ⟨_, rfl⟩
                have BW : Below (w.heap.size + 1) w4 x6 := by rw [hnx]; exact BW.alloc (by have := BW.size; omega) _
                have O14 := Below.row (show Below x5.heap.size x5 x6 by rw [hnx]; exact (Below.refl _ _).alloc (Nat.le_refl _) _) O14
                refine op_value (v := .slice (some ⟨x5.heap.size, 0, none⟩) 0 0) (w' := x6) rfl rfl (by rw [hnx]; go_simp) ⟨HSC.out _ BW, ?_⟩
                clear hnx
                obtain ⟨z16, hz16⟩ : ∃ z, z = x5.heap.size := ⟨_, rfl⟩
                rw [← hz16]
                clear hz16
                have hS := HSC.out x6 BW
                refine wpAnyH_take (i := 19) (v := .slice (some ⟨z16, 0, none⟩) 0 0) rfl (by kernel_rfl) (by kernel_rfl) (by kernel_rfl) (fun _ _ _ h => h) (.inl ⟨rfl, fun w' hS => by obtain ⟨s1, s2⟩ := hS; go_simp⟩) hS ?_
                clear hS
                refine wpAnyH_done (by kernel_rfl) ?_ _
                have HFB := hid (HB3.out.trans (BW.mono (by omega)))
                have HFR := hid (HTW.out _ _ O14)
                clear BW O14
                go_simp
                go_wp2
                go_ret3
                exact ⟨_, _, _, _, [], [], rfl, HY.out, HFR.out, .inl ⟨rfl, _, _, rfl⟩, .inl ⟨rfl, _, _, rfl⟩, HFB.out⟩
              · obtain ⟨x5, hnx⟩ : ∃ y, y = x4.alloc (.cells #[] 9) := ⟨_, rfl⟩
                have BW : Below (w.heap.size + 1) w4 x5 := by rw [hnx]; exact BW.alloc (by have := BW.size; omega) _
                have O14 := Below.row (show Below x4.heap.size x4 x5 by rw [hnx]; exact (Below.refl _ _).alloc (Nat.le_refl _) _) O14
                refine op_value (v := .slice (some ⟨x4.heap.size, 0, none⟩) 0 0) (w' := x5) rfl rfl (by rw [hnx]; go_simp) ⟨HSC.out _ BW, ?_⟩
                clear hnx
                obtain ⟨z16, hz16⟩ : ∃ z, z = x4.heap.size := ⟨_, rfl⟩
                rw [← hz16]
                clear hz16
                refine held_one 15 (by kernel_rfl) ?_
                obtain ⟨x6, hnx⟩ : ∃ y, y = x5.alloc (.cells #[] 9) := ⟨_, rfl⟩
                have BW : Below (w.heap.size + 1) w4 x6 := by rw [hnx]; exact BW.alloc (by have := BW.size; omega) _
                have O14 := Below.row (show Below x5.heap.size x5 x6 by rw [hnx]; exact (Below.refl _ _).alloc (Nat.le_refl _) _) O14
                refine op_value (v := .slice (some ⟨x5.heap.size, 0, none⟩) 0 0) (w' := x6) rfl rfl (by rw [hnx]; go_simp) ⟨HSC.out _ BW, ?_⟩
                clear hnx
                obtain ⟨z15, hz15⟩ : ∃ z, z = x5.heap.size := ⟨_, rfl⟩
                rw [← hz15]
                clear hz15
                have hS := HSC.out x6 BW
                refine wpAnyH_take (i := 18) (v := .slice (some ⟨z15, 0, none⟩) 0 0) rfl (by kernel_rfl) (by kernel_rfl) (by kernel_rfl) (fun _ _ _ h => h) (.inl ⟨rfl, fun w' hS => by obtain ⟨s1, s2⟩ := hS; go_simp⟩) hS ?_
                refine wpAnyH_take (i := 19) (v := .slice (some ⟨z16, 0, none⟩) 0 0) rfl (by kernel_rfl) (by kernel_rfl) (by kernel_rfl) (fun _ _ _ h => h) (.inl ⟨rfl, fun w' hS => by obtain ⟨s1, s2⟩ := hS; go_simp⟩) hS ?_
                clear hS
                refine wpAnyH_done (by kernel_rfl) ?_ _
                have HFB := hid (HB3.out.trans (BW.mono (by omega)))
                have HFR := hid (HTW.out _ _ O14)
                clear BW O14
                go_simp
                go_wp2
                go_ret3
                exact ⟨_, _, _, _, [], [], rfl, HY.out, HFR.out, .inl ⟨rfl, _, _, rfl⟩, .inl ⟨rfl, _, _, rfl⟩, HFB.out⟩
            · obtain ⟨x4, hnx⟩ : ∃ y, y = x3.alloc (.cells #[] 9) := ⟨_, rfl⟩
              have K13 := K13.below (show Below x3.heap.size x3 x4 by rw [hnx]; exact (Below.refl _ _).alloc (Nat.le_refl _) _)
              have BL : Below w4.heap.size w4 x4 := by rw [hnx]; exact BL.alloc BL.size _
              refine op_value (v := .slice (some ⟨x3.heap.size, 0, none⟩) 0 0) (w' := x4) rfl rfl (by rw [hnx]; go_simp) ⟨HSC.out _ (BL.mono hwl), ?_⟩
              clear hnx
              obtain ⟨z15, hz15⟩ : ∃ z, z = x3.heap.size := ⟨_, rfl⟩
              rw [← hz15]
              clear hz15
              refine held_two 14 16 (by kernel_rfl) ?_ ?_
              · have R14 := HR3.out.kept (grown_of_below BL) (.inr (by simp [Value.ownBlock]))
                refine op_wp rfl rfl (wp_append_own x4 (.tmp 86) (.tmp 99) 34 rfl (w.heap.size + 1) 25 i0 (.agg #[.string ⟨#[]⟩, .string ⟨#[]⟩, .int .i64 0, .string ⟨#[]⟩, .bool false, .slice none 0 0]) 6 88 Try.underlying34 hi0 hz0 hz1 hz2 rfl (by decide) (.slice (some ⟨w.heap.size + 1, 0, none⟩) 0 0) 0 [] (by go_simp) R14 ⟨z13, 0, none⟩ 2 2 [.string f, .string md, .int .i64 (la : Nat), .string ma, .bool false, .slice none 0 0, .string md, .string t, .int .i64 (lb : Nat), .string mb, .bool false, .slice none 0 0] (by go_simp) rfl (fun j u hu => by
                  have hj : (⟨z13, 0, none⟩ : Addr).add j = ⟨z13, j, none⟩ := by simp [Addr.add]; intro h; exact h.symm
                  rw [hj, K13.cell]
                  simpa using hu) (by simp [Value.oneCell']) (by unfold maxLen; omega) (by omega) (by have := BL.size; omega) ?_)
                intro v14 x5 O14 hg14 _
                have BW : Below (w.heap.size + 1) w4 x5 := (BL.mono hwl).grown hg14 (by have := BL.size; omega) (fun g e => by cases e; exact Nat.le_refl _)
                obtain ⟨a14, c14, rfl⟩ := nrow_any O14
                refine ⟨HSC.out _ BW, ?_⟩
                clear R14 hg14 K13 BL
                have hS := HSC.out x5 BW
                refine wpAnyH_take (i := 17) (v := .slice a14 2 c14) rfl (by kernel_rfl) (by kernel_rfl) (by kernel_rfl) (fun _ _ _ h => h) (.inl ⟨rfl, fun w' hS => by obtain ⟨s1, s2⟩ := hS; go_simp⟩) hS ?_
                refine wpAnyH_take (i := 18) (v := .slice (some ⟨z15, 0, none⟩) 0 0) rfl (by kernel_rfl) (by kernel_rfl) (by kernel_rfl) (fun _ _ _ h => h) (.inl ⟨rfl, fun w' hS => by obtain ⟨s1, s2⟩ := hS; go_simp⟩) hS ?_
                clear hS
                refine held_one 16 (by kernel_rfl) ?_
                obtain ⟨x6, hnx⟩ : ∃ y, y = x5.alloc (.cells #[] 9) := ⟨_, rfl⟩
                have BW : Below (w.heap.size + 1) w4 x6 := by rw [hnx]; exact BW.alloc (by have := BW.size; omega) _
                have O14 := Below.row (show Below x5.heap.size x5 x6 by rw [hnx]; exact (Below.refl _ _).alloc (Nat.le_refl _) _) O14
                refine op_value (v := .slice (some ⟨x5.heap.size, 0, none⟩) 0 0) (w' := x6) rfl rfl (by rw [hnx]; go_simp) ⟨HSC.out _ BW, ?_⟩
                clear hnx
                obtain ⟨z16, hz16⟩ : ∃ z, z = x5.heap.size := ⟨_, rfl⟩
                rw [← hz16]
                clear hz16
                have hS := HSC.out x6 BW
                refine wpAnyH_take (i := 19) (v := .slice (some ⟨z16, 0, none⟩) 0 0) rfl (by kernel_rfl) (by kernel_rfl) (by kernel_rfl) (fun _ _ _ h => h) (.inl ⟨rfl, fun w' hS => by obtain ⟨s1, s2⟩ := hS; go_simp⟩) hS ?_
                clear hS
                refine wpAnyH_done (by kernel_rfl) ?_ _
                have HFB := hid (HB3.out.trans (BW.mono (by omega)))
                have HFR := hid (HTW.out _ _ O14)
                clear BW O14
                go_simp
                go_wp2
                go_ret3
                exact ⟨_, _, _, _, [], [], rfl, HY.out, HFR.out, .inl ⟨rfl, _, _, rfl⟩, .inl ⟨rfl, _, _, rfl⟩, HFB.out⟩
              · obtain ⟨x5, hnx⟩ : ∃ y, y = x4.alloc (.cells #[] 9) := ⟨_, rfl⟩
                have K13 := K13.below (show Below x4.heap.size x4 x5 by rw [hnx]; exact (Below.refl _ _).alloc (Nat.le_refl _) _)
                have BL : Below w4.heap.size w4 x5 := by rw [hnx]; exact BL.alloc BL.size _
                refine op_value (v := .slice (some ⟨x4.heap.size, 0, none⟩) 0 0) (w' := x5) rfl rfl (by rw [hnx]; go_simp) ⟨HSC.out _ (BL.mono hwl), ?_⟩
                clear hnx
                obtain ⟨z16, hz16⟩ : ∃ z, z = x4.heap.size := ⟨_, rfl⟩
                rw [← hz16]
                clear hz16
                refine held_one 14 (by kernel_rfl) ?_
                have R14 := HR3.out.kept (grown_of_below BL) (.inr (by simp [Value.ownBlock]))
                refine op_wp rfl rfl (wp_append_own x5 (.tmp 86) (.tmp 99) 34 rfl (w.heap.size + 1) 25 i0 (.agg #[.string ⟨#[]⟩, .string ⟨#[]⟩, .int .i64 0, .string ⟨#[]⟩, .bool false, .slice none 0 0]) 6 88 Try.underlying34 hi0 hz0 hz1 hz2 rfl (by decide) (.slice (some ⟨w.heap.size + 1, 0, none⟩) 0 0) 0 [] (by go_simp) R14 ⟨z13, 0, none⟩ 2 2 [.string f, .string md, .int .i64 (la : Nat), .string ma, .bool false, .slice none 0 0, .string md, .string t, .int .i64 (lb : Nat), .string mb, .bool false, .slice none 0 0] (by go_simp) rfl (fun j u hu => by
                  have hj : (⟨z13, 0, none⟩ : Addr).add j = ⟨z13, j, none⟩ := by simp [Addr.add]; intro h; exact h.symm
                  rw [hj, K13.cell]
                  simpa using hu) (by simp [Value.oneCell']) (by unfold maxLen; omega) (by omega) (by have := BL.size; omega) ?_)
                intro v14 x6 O14 hg14 _
                have BW : Below (w.heap.size + 1) w4 x6 := (BL.mono hwl).grown hg14 (by have := BL.size; omega) (fun g e => by cases e; exact Nat.le_refl _)
                obtain ⟨a14, c14, rfl⟩ := nrow_any O14
                refine ⟨HSC.out _ BW, ?_⟩
                clear R14 hg14 K13 BL
                have hS := HSC.out x6 BW
                refine wpAnyH_take (i := 17) (v := .slice a14 2 c14) rfl (by kernel_rfl) (by kernel_rfl) (by kernel_rfl) (fun _ _ _ h => h) (.inl ⟨rfl, fun w' hS => by obtain ⟨s1, s2⟩ := hS; go_simp⟩) hS ?_
                refine wpAnyH_take (i := 18) (v := .slice (some ⟨z15, 0, none⟩) 0 0) rfl (by kernel_rfl) (by kernel_rfl) (by kernel_rfl) (fun _ _ _ h => h) (.inl ⟨rfl, fun w' hS => by obtain ⟨s1, s2⟩ := hS; go_simp⟩) hS ?_
                refine wpAnyH_take (i := 19) (v := .slice (some ⟨z16, 0, none⟩) 0 0) rfl (by kernel_rfl) (by kernel_rfl) (by kernel_rfl) (fun _ _ _ h => h) (.inl ⟨rfl, fun w' hS => by obtain ⟨s1, s2⟩ := hS; go_simp⟩) hS ?_
                clear hS
                refine wpAnyH_done (by kernel_rfl) ?_ _
                have HFB := hid (HB3.out.trans (BW.mono (by omega)))
                have HFR := hid (HTW.out _ _ O14)
                clear BW O14
                go_simp
                go_wp2
                go_ret3
                exact ⟨_, _, _, _, [], [], rfl, HY.out, HFR.out, .inl ⟨rfl, _, _, rfl⟩, .inl ⟨rfl, _, _, rfl⟩, HFB.out⟩
            · obtain ⟨x4, hnx⟩ : ∃ y, y = x3.alloc (.cells #[] 9) := ⟨_, rfl⟩
              have K13 := K13.below (show Below x3.heap.size x3 x4 by rw [hnx]; exact (Below.refl _ _).alloc (Nat.le_refl _) _)
              have BL : Below w4.heap.size w4 x4 := by rw [hnx]; exact BL.alloc BL.size _
              refine op_value (v := .slice (some ⟨x3.heap.size, 0, none⟩) 0 0) (w' := x4) rfl rfl (by rw [hnx]; go_simp) ⟨HSC.out _ (BL.mono hwl), ?_⟩
              clear hnx
              obtain ⟨z16, hz16⟩ : ∃ z, z = x3.heap.size := ⟨_, rfl⟩
              rw [← hz16]
              clear hz16
              refine held_two 14 15 (by kernel_rfl) ?_ ?_
              · have R14 := HR3.out.kept (grown_of_below BL) (.inr (by simp [Value.ownBlock]))
                refine op_wp rfl rfl (wp_append_own x4 (.tmp 86) (.tmp 99) 34 rfl (w.heap.size + 1) 25 i0 (.agg #[.string ⟨#[]⟩, .string ⟨#[]⟩, .int .i64 0, .string ⟨#[]⟩, .bool false, .slice none 0 0]) 6 88 Try.underlying34 hi0 hz0 hz1 hz2 rfl (by decide) (.slice (some ⟨w.heap.size + 1, 0, none⟩) 0 0) 0 [] (by go_simp) R14 ⟨z13, 0, none⟩ 2 2 [.string f, .string md, .int .i64 (la : Nat), .string ma, .bool false, .slice none 0 0, .string md, .string t, .int .i64 (lb : Nat), .string mb, .bool false, .slice none 0 0] (by go_simp) rfl (fun j u hu => by
                  have hj : (⟨z13, 0, none⟩ : Addr).add j = ⟨z13, j, none⟩ := by simp [Addr.add]; intro h; exact h.symm
                  rw [hj, K13.cell]
                  simpa using hu) (by simp [Value.oneCell']) (by unfold maxLen; omega) (by omega) (by have := BL.size; omega) ?_)
                intro v14 x5 O14 hg14 _
                have BW : Below (w.heap.size + 1) w4 x5 := (BL.mono hwl).grown hg14 (by have := BL.size; omega) (fun g e => by cases e; exact Nat.le_refl _)
                obtain ⟨a14, c14, rfl⟩ := nrow_any O14
                refine ⟨HSC.out _ BW, ?_⟩
                clear R14 hg14 K13 BL
                have hS := HSC.out x5 BW
                refine wpAnyH_take (i := 17) (v := .slice a14 2 c14) rfl (by kernel_rfl) (by kernel_rfl) (by kernel_rfl) (fun _ _ _ h => h) (.inl ⟨rfl, fun w' hS => by obtain ⟨s1, s2⟩ := hS; go_simp⟩) hS ?_
                clear hS
                refine held_one 15 (by kernel_rfl) ?_
                obtain ⟨x6, hnx⟩ : ∃ y, y = x5.alloc (.cells #[] 9) := ⟨_, rfl⟩
                have BW : Below (w.heap.size + 1) w4 x6 := by rw [hnx]; exact BW.alloc (by have := BW.size; omega) _
                have O14 := Below.row (show Below x5.heap.size x5 x6 by rw [hnx]; exact (Below.refl _ _).alloc (Nat.le_refl _) _) O14
                refine op_value (v := .slice (some ⟨x5.heap.size, 0, none⟩) 0 0) (w' := x6) rfl rfl (by rw [hnx]; go_simp) ⟨HSC.out _ BW, ?_⟩
                clear hnx
                obtain ⟨z15, hz15⟩ : ∃ z, z = x5.heap.size := ⟨_, rfl⟩
                rw [← hz15]
                clear hz15
                have hS := HSC.out x6 BW
                refine wpAnyH_take (i := 18) (v := .slice (some ⟨z15, 0, none⟩) 0 0) rfl (by kernel_rfl) (by kernel_rfl) (by kernel_rfl) (fun _ _ _ h => h) (.inl ⟨rfl, fun w' hS => by obtain ⟨s1, s2⟩ := hS; go_simp⟩) hS ?_
                refine wpAnyH_take (i := 19) (v := .slice (some ⟨z16, 0, none⟩) 0 0) rfl (by kernel_rfl) (by kernel_rfl) (by kernel_rfl) (fun _ _ _ h => h) (.inl ⟨rfl, fun w' hS => by obtain ⟨s1, s2⟩ := hS; go_simp⟩) hS ?_
                clear hS
                refine wpAnyH_done (by kernel_rfl) ?_ _
                have HFB := hid (HB3.out.trans (BW.mono (by omega)))
                have HFR := hid (HTW.out _ _ O14)
                clear BW O14
                go_simp
                go_wp2
                go_ret3
                exact ⟨_, _, _, _, [], [], rfl, HY.out, HFR.out, .inl ⟨rfl, _, _, rfl⟩, .inl ⟨rfl, _, _, rfl⟩, HFB.out⟩
              · obtain ⟨x5, hnx⟩ : ∃ y, y = x4.alloc (.cells #[] 9) := ⟨_, rfl⟩
                have K13 := K13.below (show Below x4.heap.size x4 x5 by rw [hnx]; exact (Below.refl _ _).alloc (Nat.le_refl _) _)
                have BL : Below w4.heap.size w4 x5 := by rw [hnx]; exact BL.alloc BL.size _
                refine op_value (v := .slice (some ⟨x4.heap.size, 0, none⟩) 0 0) (w' := x5) rfl rfl (by rw [hnx]; go_simp) ⟨HSC.out _ (BL.mono hwl), ?_⟩
                clear hnx
                obtain ⟨z15, hz15⟩ : ∃ z, z = x4.heap.size := ⟨_, rfl⟩
                rw [← hz15]
                clear hz15
                refine held_one 14 (by kernel_rfl) ?_
                have R14 := HR3.out.kept (grown_of_below BL) (.inr (by simp [Value.ownBlock]))
                refine op_wp rfl rfl (wp_append_own x5 (.tmp 86) (.tmp 99) 34 rfl (w.heap.size + 1) 25 i0 (.agg #[.string ⟨#[]⟩, .string ⟨#[]⟩, .int .i64 0, .string ⟨#[]⟩, .bool false, .slice none 0 0]) 6 88 Try.underlying34 hi0 hz0 hz1 hz2 rfl (by decide) (.slice (some ⟨w.heap.size + 1, 0, none⟩) 0 0) 0 [] (by go_simp) R14 ⟨z13, 0, none⟩ 2 2 [.string f, .string md, .int .i64 (la : Nat), .string ma, .bool false, .slice none 0 0, .string md, .string t, .int .i64 (lb : Nat), .string mb, .bool false, .slice none 0 0] (by go_simp) rfl (fun j u hu => by
                  have hj : (⟨z13, 0, none⟩ : Addr).add j = ⟨z13, j, none⟩ := by simp [Addr.add]; intro h; exact h.symm
                  rw [hj, K13.cell]
                  simpa using hu) (by simp [Value.oneCell']) (by unfold maxLen; omega) (by omega) (by have := BL.size; omega) ?_)
                intro v14 x6 O14 hg14 _
                have BW : Below (w.heap.size + 1) w4 x6 := (BL.mono hwl).grown hg14 (by have := BL.size; omega) (fun g e => by cases e; exact Nat.le_refl _)
                obtain ⟨a14, c14, rfl⟩ := nrow_any O14
                refine ⟨HSC.out _ BW, ?_⟩
                clear R14 hg14 K13 BL
                have hS := HSC.out x6 BW
                refine wpAnyH_take (i := 17) (v := .slice a14 2 c14) rfl (by kernel_rfl) (by kernel_rfl) (by kernel_rfl) (fun _ _ _ h => h) (.inl ⟨rfl, fun w' hS => by obtain ⟨s1, s2⟩ := hS; go_simp⟩) hS ?_
                refine wpAnyH_take (i := 18) (v := .slice (some ⟨z15, 0, none⟩) 0 0) rfl (by kernel_rfl) (by kernel_rfl) (by kernel_rfl) (fun _ _ _ h => h) (.inl ⟨rfl, fun w' hS => by obtain ⟨s1, s2⟩ := hS; go_simp⟩) hS ?_
                refine wpAnyH_take (i := 19) (v := .slice (some ⟨z16, 0, none⟩) 0 0) rfl (by kernel_rfl) (by kernel_rfl) (by kernel_rfl) (fun _ _ _ h => h) (.inl ⟨rfl, fun w' hS => by obtain ⟨s1, s2⟩ := hS; go_simp⟩) hS ?_
                clear hS
                refine wpAnyH_done (by kernel_rfl) ?_ _
                have HFB := hid (HB3.out.trans (BW.mono (by omega)))
                have HFR := hid (HTW.out _ _ O14)
                clear BW O14
                go_simp
                go_wp2
                go_ret3
                exact ⟨_, _, _, _, [], [], rfl, HY.out, HFR.out, .inl ⟨rfl, _, _, rfl⟩, .inl ⟨rfl, _, _, rfl⟩, HFB.out⟩
          · obtain ⟨x3, hnx⟩ : ∃ y, y = x2.alloc (.cells #[] 9) := ⟨_, rfl⟩
            have BL : Below w4.heap.size w4 x3 := by rw [hnx]; exact BL.alloc BL.size _
            refine op_value (v := .slice (some ⟨x2.heap.size, 0, none⟩) 0 0) (w' := x3) rfl rfl (by rw [hnx]; go_simp) ⟨HSC.out _ (BL.mono hwl), ?_⟩
            clear hnx
            obtain ⟨z15, hz15⟩ : ∃ z, z = x2.heap.size := ⟨_, rfl⟩
            rw [← hz15]
            clear hz15
            refine held_two 13 16 (by kernel_rfl) ?_ ?_
            · obtain ⟨x4, hnx⟩ : ∃ y, y = x3.alloc (.cells #[.string f, .string md, .int .i64 (la : Nat), .string ma, .bool false, .slice none 0 0, .string md, .string t, .int .i64 (lb : Nat), .string mb, .bool false, .slice none 0 0] 25) := ⟨_, rfl⟩
              have K13 : Blk x4 x3.heap.size 25 #[.string f, .string md, .int .i64 (la : Nat), .string ma, .bool false, .slice none 0 0, .string md, .string t, .int .i64 (lb : Nat), .string mb, .bool false, .slice none 0 0] := by rw [hnx]; exact Blk.new _ _ _
              have BL : Below w4.heap.size w4 x4 := by rw [hnx]; exact BL.alloc BL.size _
              refine op_value (v := .slice (some ⟨x3.heap.size, 0, none⟩) 2 2) (w' := x4) rfl rfl (by rw [hnx]; go_simp) ⟨HSC.out _ (BL.mono hwl), ?_⟩
              clear hnx
              obtain ⟨z13, hz13⟩ : ∃ z, z = x3.heap.size := ⟨_, rfl⟩
              rw [← hz13] at K13 ⊢
              clear hz13
              refine held_two 14 16 (by kernel_rfl) ?_ ?_
              · have R14 := HR3.out.kept (grown_of_below BL) (.inr (by simp [Value.ownBlock]))
                refine op_wp rfl rfl (wp_append_own x4 (.tmp 86) (.tmp 99) 34 rfl (w.heap.size + 1) 25 i0 (.agg #[.string ⟨#[]⟩, .string ⟨#[]⟩, .int .i64 0, .string ⟨#[]⟩, .bool false, .slice none 0 0]) 6 88 Try.underlying34 hi0 hz0 hz1 hz2 rfl (by decide) (.slice (some ⟨w.heap.size + 1, 0, none⟩) 0 0) 0 [] (by go_simp) R14 ⟨z13, 0, none⟩ 2 2 [.string f, .string md, .int .i64 (la : Nat), .string ma, .bool false, .slice none 0 0, .string md, .string t, .int .i64 (lb : Nat), .string mb, .bool false, .slice none 0 0] (by go_simp) rfl (fun j u hu => by
                  have hj : (⟨z13, 0, none⟩ : Addr).add j = ⟨z13, j, none⟩ := by simp [Addr.add]; intro h; exact h.symm
                  rw [hj, K13.cell]
                  simpa using hu) (by simp [Value.oneCell']) (by unfold maxLen; omega) (by omega) (by have := BL.size; omega) ?_)
                intro v14 x5 O14 hg14 _
                have BW : Below (w.heap.size + 1) w4 x5 := (BL.mono hwl).grown hg14 (by have := BL.size; omega) (fun g e => by cases e; exact Nat.le_refl _)
                obtain ⟨a14, c14, rfl⟩ := nrow_any O14
                refine ⟨HSC.out _ BW, ?_⟩
                clear R14 hg14 K13 BL
                have hS := HSC.out x5 BW
                refine wpAnyH_take (i := 17) (v := .slice a14 2 c14) rfl (by kernel_rfl) (by kernel_rfl) (by kernel_rfl) (fun _ _ _ h => h) (.inl ⟨rfl, fun w' hS => by obtain ⟨s1, s2⟩ := hS; go_simp⟩) hS ?_
                refine wpAnyH_take (i := 18) (v := .slice (some ⟨z15, 0, none⟩) 0 0) rfl (by kernel_rfl) (by kernel_rfl) (by kernel_rfl) (fun _ _ _ h => h) (.inl ⟨rfl, fun w' hS => by obtain ⟨s1, s2⟩ := hS; go_simp⟩) hS ?_
                clear hS
                refine held_one 16 (by kernel_rfl) ?_
                obtain ⟨x6, hnx⟩ : ∃ y, y = x5.alloc (.cells #[] 9) := ⟨_, rfl⟩
                have BW : Below (w.heap.size + 1) w4 x6 := by rw [hnx]; exact BW.alloc (by have := BW.size; omega) _
                have O14 := Below.row (show Below x5.heap.size x5 x6 by rw [hnx]; exact (Below.refl _ _).alloc (Nat.le_refl _) _) O14
                refine op_value (v := .slice (some ⟨x5.heap.size, 0, none⟩) 0 0) (w' := x6) rfl rfl (by rw [hnx]; go_simp) ⟨HSC.out _ BW, ?_⟩
                clear hnx
                obtain ⟨z16, hz16⟩ : ∃ z, z = x5.heap.size := ⟨_, rfl⟩
                rw [← hz16]
                clear hz16
                have hS := HSC.out x6 BW
                refine wpAnyH_take (i := 19) (v := .slice (some ⟨z16, 0, none⟩) 0 0) rfl (by kernel_rfl) (by kernel_rfl) (by kernel_rfl) (fun _ _ _ h => h) (.inl ⟨rfl, fun w' hS => by obtain ⟨s1, s2⟩ := hS; go_simp⟩) hS ?_
                clear hS
                refine wpAnyH_done (by kernel_rfl) ?_ _
                have HFB := hid (HB3.out.trans (BW.mono (by omega)))
                have HFR := hid (HTW.out _ _ O14)
                clear BW O14
                go_simp
                go_wp2
                go_ret3
                exact ⟨_, _, _, _, [], [], rfl, HY.out, HFR.out, .inl ⟨rfl, _, _, rfl⟩, .inl ⟨rfl, _, _, rfl⟩, HFB.out⟩
              · obtain ⟨x5, hnx⟩ : ∃ y, y = x4.alloc (.cells #[] 9) := ⟨_, rfl⟩
                have K13 := K13.below (show Below x4.heap.size x4 x5 by rw [hnx]; exact (Below.refl _ _).alloc (Nat.le_refl _) _)
                have BL : Below w4.heap.size w4 x5 := by rw [hnx]; exact BL.alloc BL.size _
                refine op_value (v := .slice (some ⟨x4.heap.size, 0, none⟩) 0 0) (w' := x5) rfl rfl (by rw [hnx]; go_simp) ⟨HSC.out _ (BL.mono hwl), ?_⟩
                clear hnx
                obtain ⟨z16, hz16⟩ : ∃ z, z = x4.heap.size := ⟨_, rfl⟩
                rw [← hz16]
                clear hz16
                refine held_one 14 (by kernel_rfl) ?_
                have R14 := HR3.out.kept (grown_of_below BL) (.inr (by simp [Value.ownBlock]))
                refine op_wp rfl rfl (wp_append_own x5 (.tmp 86) (.tmp 99) 34 rfl (w.heap.size + 1) 25 i0 (.agg #[.string ⟨#[]⟩, .string ⟨#[]⟩, .int .i64 0, .string ⟨#[]⟩, .bool false, .slice none 0 0]) 6 88 Try.underlying34 hi0 hz0 hz1 hz2 rfl (by decide) (.slice (some ⟨w.heap.size + 1, 0, none⟩) 0 0) 0 [] (by go_simp) R14 ⟨z13, 0, none⟩ 2 2 [.string f, .string md, .int .i64 (la : Nat), .string ma, .bool false, .slice none 0 0, .string md, .string t, .int .i64 (lb : Nat), .string mb, .bool false, .slice none 0 0] (by go_simp) rfl (fun j u hu => by
                  have hj : (⟨z13, 0, none⟩ : Addr).add j = ⟨z13, j, none⟩ := by simp [Addr.add]; intro h; exact h.symm
                  rw [hj, K13.cell]
                  simpa using hu) (by simp [Value.oneCell']) (by unfold maxLen; omega) (by omega) (by have := BL.size; omega) ?_)
                intro v14 x6 O14 hg14 _
                have BW : Below (w.heap.size + 1) w4 x6 := (BL.mono hwl).grown hg14 (by have := BL.size; omega) (fun g e => by cases e; exact Nat.le_refl _)
                obtain ⟨a14, c14, rfl⟩ := nrow_any O14
                refine ⟨HSC.out _ BW, ?_⟩
                clear R14 hg14 K13 BL
                have hS := HSC.out x6 BW
                refine wpAnyH_take (i := 17) (v := .slice a14 2 c14) rfl (by kernel_rfl) (by kernel_rfl) (by kernel_rfl) (fun _ _ _ h => h) (.inl ⟨rfl, fun w' hS => by obtain ⟨s1, s2⟩ := hS; go_simp⟩) hS ?_
                refine wpAnyH_take (i := 18) (v := .slice (some ⟨z15, 0, none⟩) 0 0) rfl (by kernel_rfl) (by kernel_rfl) (by kernel_rfl) (fun _ _ _ h => h) (.inl ⟨rfl, fun w' hS => by obtain ⟨s1, s2⟩ := hS; go_simp⟩) hS ?_
                refine wpAnyH_take (i := 19) (v := .slice (some ⟨z16, 0, none⟩) 0 0) rfl (by kernel_rfl) (by kernel_rfl) (by kernel_rfl) (fun _ _ _ h => h) (.inl ⟨rfl, fun w' hS => by obtain ⟨s1, s2⟩ := hS; go_simp⟩) hS ?_
                clear hS
                refine wpAnyH_done (by kernel_rfl) ?_ _
                have HFB := hid (HB3.out.trans (BW.mono (by omega)))
                have HFR := hid (HTW.out _ _ O14)
                clear BW O14
                go_simp
                go_wp2
                go_ret3
                exact ⟨_, _, _, _, [], [], rfl, HY.out, HFR.out, .inl ⟨rfl, _, _, rfl⟩, .inl ⟨rfl, _, _, rfl⟩, HFB.out⟩
            · obtain ⟨x4, hnx⟩ : ∃ y, y = x3.alloc (.cells #[] 9) := ⟨_, rfl⟩
              have BL : Below w4.heap.size w4 x4 := by rw [hnx]; exact BL.alloc BL.size _
              refine op_value (v := .slice (some ⟨x3.heap.size, 0, none⟩) 0 0) (w' := x4) rfl rfl (by rw [hnx]; go_simp) ⟨HSC.out _ (BL.mono hwl), ?_⟩
              clear hnx
              obtain ⟨z16, hz16⟩ : ∃ z, z = x3.heap.size := ⟨_, rfl⟩
              rw [← hz16]
              clear hz16
              refine held_one 13 (by kernel_rfl) ?_
              obtain ⟨x5, hnx⟩ : ∃ y, y = x4.alloc (.cells #[.string f, .string md, .int .i64 (la : Nat), .string ma, .bool false, .slice none 0 0, .string md, .string t, .int .i64 (lb : Nat), .string mb, .bool false, .slice none 0 0] 25) := ⟨_, rfl⟩
              have K13 : Blk x5 x4.heap.size 25 #[.string f, .string md, .int .i64 (la : Nat), .string ma, .bool false, .slice none 0 0, .string md, .string t, .int .i64 (lb : Nat), .string mb, .bool false, .slice none 0 0] := by rw [hnx]; exact Blk.new _ _ _
              have BL : Below w4.heap.size w4 x5 := by rw [hnx]; exact BL.alloc BL.size _
              refine op_value (v := .slice (some ⟨x4.heap.size, 0, none⟩) 2 2) (w' := x5) rfl rfl (by rw [hnx]; go_simp) ⟨HSC.out _ (BL.mono hwl), ?_⟩
              clear hnx
              obtain ⟨z13, hz13⟩ : ∃ z, z = x4.heap.size := ⟨_, rfl⟩
              rw [← hz13] at K13 ⊢
              clear hz13
              refine held_one 14 (by kernel_rfl) ?_
              have R14 := HR3.out.kept (grown_of_below BL) (.inr (by simp [Value.ownBlock]))
              refine op_wp rfl rfl (wp_append_own x5 (.tmp 86) (.tmp 99) 34 rfl (w.heap.size + 1) 25 i0 (.agg #[.string ⟨#[]⟩, .string ⟨#[]⟩, .int .i64 0, .string ⟨#[]⟩, .bool false, .slice none 0 0]) 6 88 Try.underlying34 hi0 hz0 hz1 hz2 rfl (by decide) (.slice (some ⟨w.heap.size + 1, 0, none⟩) 0 0) 0 [] (by go_simp) R14 ⟨z13, 0, none⟩ 2 2 [.string f, .string md, .int .i64 (la : Nat), .string ma, .bool false, .slice none 0 0, .string md, .string t, .int .i64 (lb : Nat), .string mb, .bool false, .slice none 0 0] (by go_simp) rfl (fun j u hu => by
                have hj : (⟨z13, 0, none⟩ : Addr).add j = ⟨z13, j, none⟩ := by simp [Addr.add]; intro h; exact h.symm
                rw [hj, K13.cell]
                simpa using hu) (by simp [Value.oneCell']) (by unfold maxLen; omega) (by omega) (by have := BL.size; omega) ?_)
              intro v14 x6 O14 hg14 _
              have BW : Below (w.heap.size + 1) w4 x6 := (BL.mono hwl).grown hg14 (by have := BL.size; omega) (fun g e => by cases e; exact Nat.le_refl _)
              obtain ⟨a14, c14, rfl⟩ := nrow_any O14
              refine ⟨HSC.out _ BW, ?_⟩
              clear R14 hg14 K13 BL
              have hS := HSC.out x6 BW
              refine wpAnyH_take (i := 17) (v := .slice a14 2 c14) rfl (by kernel_rfl) (by kernel_rfl) (by kernel_rfl) (fun _ _ _ h => h) (.inl ⟨rfl, fun w' hS => by obtain ⟨s1, s2⟩ := hS; go_simp⟩) hS ?_
              refine wpAnyH_take (i := 18) (v := .slice (some ⟨z15, 0, none⟩) 0 0) rfl (by kernel_rfl) (by kernel_rfl) (by kernel_rfl) (fun _ _ _ h => h) (.inl ⟨rfl, fun w' hS => by obtain ⟨s1, s2⟩ := hS; go_simp⟩) hS ?_
              refine wpAnyH_take (i := 19) (v := .slice (some ⟨z16, 0, none⟩) 0 0) rfl (by kernel_rfl) (by kernel_rfl) (by kernel_rfl) (fun _ _ _ h => h) (.inl ⟨rfl, fun w' hS => by obtain ⟨s1, s2⟩ := hS; go_simp⟩) hS ?_
              clear hS
              refine wpAnyH_done (by kernel_rfl) ?_ _
              have HFB := hid (HB3.out.trans (BW.mono (by omega)))
              have HFR := hid (HTW.out _ _ O14)
              clear BW O14
              go_simp
              go_wp2
              go_ret3
              exact ⟨_, _, _, _, [], [], rfl, HY.out, HFR.out, .inl ⟨rfl, _, _, rfl⟩, .inl ⟨rfl, _, _, rfl⟩, HFB.out⟩
          · obtain ⟨x3, hnx⟩ : ∃ y, y = x2.alloc (.cells #[] 9) := ⟨_, rfl⟩
            have BL : Below w4.heap.size w4 x3 := by rw [hnx]; exact BL.alloc BL.size _
            refine op_value (v := .slice (some ⟨x2.heap.size, 0, none⟩) 0 0) (w' := x3) rfl rfl (by rw [hnx]; go_simp) ⟨HSC.out _ (BL.mono hwl), ?_⟩
            clear hnx
            obtain ⟨z16, hz16⟩ : ∃ z, z = x2.heap.size := ⟨_, rfl⟩
            rw [← hz16]
            clear hz16
            refine held_two 13 15 (by kernel_rfl) ?_ ?_
            · obtain ⟨x4, hnx⟩ : ∃ y, y = x3.alloc (.cells #[.string f, .string md, .int .i64 (la : Nat), .string ma, .bool false, .slice none 0 0, .string md, .string t, .int .i64 (lb : Nat), .string mb, .bool false, .slice none 0 0] 25) := ⟨_, rfl⟩
              have K13 : Blk x4 x3.heap.size 25 #[.string f, .string md, .int .i64 (la : Nat), .string ma, .bool false, .slice none 0 0, .string md, .string t, .int .i64 (lb : Nat), .string mb, .bool false, .slice none 0 0] := by rw [hnx]; exact Blk.new _ _ _
              have BL : Below w4.heap.size w4 x4 := by rw [hnx]; exact BL.alloc BL.size _
              refine op_value (v := .slice (some ⟨x3.heap.size, 0, none⟩) 2 2) (w' := x4) rfl rfl (by rw [hnx]; go_simp) ⟨HSC.out _ (BL.mono hwl), ?_⟩
              clear hnx
              obtain ⟨z13, hz13⟩ : ∃ z, z = x3.heap.size := ⟨_, rfl⟩
              rw [← hz13] at K13 ⊢
              clear hz13
              refine held_two 14 15 (by kernel_rfl) ?_ ?_
              · have R14 := HR3.out.kept (grown_of_below BL) (.inr (by simp [Value.ownBlock]))
                refine op_wp rfl rfl (wp_append_own x4 (.tmp 86) (.tmp 99) 34 rfl (w.heap.size + 1) 25 i0 (.agg #[.string ⟨#[]⟩, .string ⟨#[]⟩, .int .i64 0, .string ⟨#[]⟩, .bool false, .slice none 0 0]) 6 88 Try.underlying34 hi0 hz0 hz1 hz2 rfl (by decide) (.slice (some ⟨w.heap.size + 1, 0, none⟩) 0 0) 0 [] (by go_simp) R14 ⟨z13, 0, none⟩ 2 2 [.string f, .string md, .int .i64 (la : Nat), .string ma, .bool false, .slice none 0 0, .string md, .string t, .int .i64 (lb : Nat), .string mb, .bool false, .slice none 0 0] (by go_simp) rfl (fun j u hu => by
                  have hj : (⟨z13, 0, none⟩ : Addr).add j = ⟨z13, j, none⟩ := by simp [Addr.add]; intro h; exact h.symm
                  rw [hj, K13.cell]
                  simpa using hu) (by simp [Value.oneCell']) (by unfold maxLen; omega) (by omega) (by have := BL.size; omega) ?_)
                intro v14 x5 O14 hg14 _
                have BW : Below (w.heap.size + 1) w4 x5 := (BL.mono hwl).grown hg14 (by have := BL.size; omega) (fun g e => by cases e; exact Nat.le_refl _)
                obtain ⟨a14, c14, rfl⟩ := nrow_any O14
                refine ⟨HSC.out _ BW, ?_⟩
                clear R14 hg14 K13 BL
                have hS := HSC.out x5 BW
                refine wpAnyH_take (i := 17) (v := .slice a14 2 c14) rfl (by kernel_rfl) (by kernel_rfl) (by kernel_rfl) (fun _ _ _ h => h) (.inl ⟨rfl, fun w' hS => by obtain ⟨s1, s2⟩ := hS; go_simp⟩) hS ?_
                clear hS
                refine held_one 15 (by kernel_rfl) ?_
                obtain ⟨x6, hnx⟩ : ∃ y, y = x5.alloc (.cells #[] 9) := ⟨_, rfl⟩
                have BW : Below (w.heap.size + 1) w4 x6 := by rw [hnx]; exact BW.alloc (by have := BW.size; omega) _
                have O14 := Below.row (show Below x5.heap.size x5 x6 by rw [hnx]; exact (Below.refl _ _).alloc (Nat.le_refl _) _) O14
                refine op_value (v := .slice (some ⟨x5.heap.size, 0, none⟩) 0 0) (w' := x6) rfl rfl (by rw [hnx]; go_simp) ⟨HSC.out _ BW, ?_⟩
                clear hnx
                obtain ⟨z15, hz15⟩ : ∃ z, z = x5.heap.size := ⟨_, rfl⟩
                rw [← hz15]
                clear hz15
                have hS := HSC.out x6 BW
                refine wpAnyH_take (i := 18) (v := .slice (some ⟨z15, 0, none⟩) 0 0) rfl (by kernel_rfl) (by kernel_rfl) (by kernel_rfl) (fun _ _ _ h => h) (.inl ⟨rfl, fun w' hS => by obtain ⟨s1, s2⟩ := hS; go_simp⟩) hS ?_
                refine wpAnyH_take (i := 19) (v := .slice (some ⟨z16, 0, none⟩) 0 0) rfl (by kernel_rfl) (by kernel_rfl) (by kernel_rfl) (fun _ _ _ h => h) (.inl ⟨rfl, fun w' hS => by obtain ⟨s1, s2⟩ := hS; go_simp⟩) hS ?_
                clear hS
                refine wpAnyH_done (by kernel_rfl) ?_ _
                have HFB := hid (HB3.out.trans (BW.mono (by omega)))
                have HFR := hid (HTW.out _ _ O14)
                clear BW O14
                go_simp
                go_wp2
                go_ret3
                exact ⟨_, _, _, _, [], [], rfl, HY.out, HFR.out, .inl ⟨rfl, _, _, rfl⟩, .inl ⟨rfl, _, _, rfl⟩, HFB.out⟩
              · obtain ⟨x5, hnx⟩ : ∃ y, y = x4.alloc (.cells #[] 9) := ⟨_, rfl⟩
                have K13 := K13.below (show Below x4.heap.size x4 x5 by rw [hnx]; exact (Below.refl _ _).alloc (Nat.le_refl _) _)
                have BL : Below w4.heap.size w4 x5 := by rw [hnx]; exact BL.alloc BL.size _
                refine op_value (v := .slice (some ⟨x4.heap.size, 0, none⟩) 0 0) (w' := x5) rfl rfl (by rw [hnx]; go_simp) ⟨HSC.out _ (BL.mono hwl), ?_⟩
                clear hnx
                obtain ⟨z15, hz15⟩ : ∃ z, z = x4.heap.size := ⟨_, rfl⟩
                rw [← hz15]
                clear hz15
                refine held_one 14 (by kernel_rfl) ?_
                have R14 := HR3.out.kept (grown_of_below BL) (.inr (by simp [Value.ownBlock]))
                refine op_wp rfl rfl (wp_append_own x5 (.tmp 86) (.tmp 99) 34 rfl (w.heap.size + 1) 25 i0 (.agg #[.string ⟨#[]⟩, .string ⟨#[]⟩, .int .i64 0, .string ⟨#[]⟩, .bool false, .slice none 0 0]) 6 88 Try.underlying34 hi0 hz0 hz1 hz2 rfl (by decide) (.slice (some ⟨w.heap.size + 1, 0, none⟩) 0 0) 0 [] (by go_simp) R14 ⟨z13, 0, none⟩ 2 2 [.string f, .string md, .int .i64 (la : Nat), .string ma, .bool false, .slice none 0 0, .string md, .string t, .int .i64 (lb : Nat), .string mb, .bool false, .slice none 0 0] (by go_simp) rfl (fun j u hu => by
                  have hj : (⟨z13, 0, none⟩ : Addr).add j = ⟨z13, j, none⟩ := by simp [Addr.add]; intro h; exact h.symm
                  rw [hj, K13.cell]
                  simpa using hu) (by simp [Value.oneCell']) (by unfold maxLen; omega) (by omega) (by have := BL.size; omega) ?_)
                intro v14 x6 O14 hg14 _
                have BW : Below (w.heap.size + 1) w4 x6 := (BL.mono hwl).grown hg14 (by have := BL.size; omega) (fun g e => by cases e; exact Nat.le_refl _)
                obtain ⟨a14, c14, rfl⟩ := nrow_any O14
                refine ⟨HSC.out _ BW, ?_⟩
                clear R14 hg14 K13 BL
                have hS := HSC.out x6 BW
                refine wpAnyH_take (i := 17) (v := .slice a14 2 c14) rfl (by kernel_rfl) (by kernel_rfl) (by kernel_rfl) (fun _ _ _ h => h) (.inl ⟨rfl, fun w' hS => by obtain ⟨s1, s2⟩ := hS; go_simp⟩) hS ?_
                refine wpAnyH_take (i := 18) (v := .slice (some ⟨z15, 0, none⟩) 0 0) rfl (by kernel_rfl) (by kernel_rfl) (by kernel_rfl) (fun _ _ _ h => h) (.inl ⟨rfl, fun w' hS => by obtain ⟨s1, s2⟩ := hS; go_simp⟩) hS ?_
                refine wpAnyH_take (i := 19) (v := .slice (some ⟨z16, 0, none⟩) 0 0) rfl (by kernel_rfl) (by kernel_rfl) (by kernel_rfl) (fun _ _ _ h => h) (.inl ⟨rfl, fun w' hS => by obtain ⟨s1, s2⟩ := hS; go_simp⟩) hS ?_
                clear hS
                refine wpAnyH_done (by kernel_rfl) ?_ _
                have HFB := hid (HB3.out.trans (BW.mono (by omega)))
                have HFR := hid (HTW.out _ _ O14)
                clear BW O14
                go_simp
                go_wp2
                go_ret3
                exact ⟨_, _, _, _, [], [], rfl, HY.out, HFR.out, .inl ⟨rfl, _, _, rfl⟩, .inl ⟨rfl, _, _, rfl⟩, HFB.out⟩
            · obtain ⟨x4, hnx⟩ : ∃ y, y = x3.alloc (.cells #[] 9) := ⟨_, rfl⟩
              have BL : Below w4.heap.size w4 x4 := by rw [hnx]; exact BL.alloc BL.size _
              refine op_value (v := .slice (some ⟨x3.heap.size, 0, none⟩) 0 0) (w' := x4) rfl rfl (by rw [hnx]; go_simp) ⟨HSC.out _ (BL.mono hwl), ?_⟩
              clear hnx
              obtain ⟨z15, hz15⟩ : ∃ z, z = x3.heap.size := ⟨_, rfl⟩
              rw [← hz15]
              clear hz15
              refine held_one 13 (by kernel_rfl) ?_
              obtain ⟨x5, hnx⟩ : ∃ y, y = x4.alloc (.cells #[.string f, .string md, .int .i64 (la : Nat), .string ma, .bool false, .slice none 0 0, .string md, .string t, .int .i64 (lb : Nat), .string mb, .bool false, .slice none 0 0] 25) := ⟨_, rfl⟩
              have K13 : Blk x5 x4.heap.size 25 #[.string f, .string md, .int .i64 (la : Nat), .string ma, .bool false, .slice none 0 0, .string md, .string t, .int .i64 (lb : Nat), .string mb, .bool false, .slice none 0 0] := by rw [hnx]; exact Blk.new _ _ _
              have BL : Below w4.heap.size w4 x5 := by rw [hnx]; exact BL.alloc BL.size _
              refine op_value (v := .slice (some ⟨x4.heap.size, 0, none⟩) 2 2) (w' := x5) rfl rfl (by rw [hnx]; go_simp) ⟨HSC.out _ (BL.mono hwl), ?_⟩
              clear hnx
              obtain ⟨z13, hz13⟩ : ∃ z, z = x4.heap.size := ⟨_, rfl⟩
              rw [← hz13] at K13 ⊢
              clear hz13
              refine held_one 14 (by kernel_rfl) ?_
              have R14 := HR3.out.kept (grown_of_below BL) (.inr (by simp [Value.ownBlock]))
              refine op_wp rfl rfl (wp_append_own x5 (.tmp 86) (.tmp 99) 34 rfl (w.heap.size + 1) 25 i0 (.agg #[.string ⟨#[]⟩, .string ⟨#[]⟩, .int .i64 0, .string ⟨#[]⟩, .bool false, .slice none 0 0]) 6 88 Try.underlying34 hi0 hz0 hz1 hz2 rfl (by decide) (.slice (some ⟨w.heap.size + 1, 0, none⟩) 0 0) 0 [] (by go_simp) R14 ⟨z13, 0, none⟩ 2 2 [.string f, .string md, .int .i64 (la : Nat), .string ma, .bool false, .slice none 0 0, .string md, .string t, .int .i64 (lb : Nat), .string mb, .bool false, .slice none 0 0] (by go_simp) rfl (fun j u hu => by
                have hj : (⟨z13, 0, none⟩ : Addr).add j = ⟨z13, j, none⟩ := by simp [Addr.add]; intro h; exact h.symm
                rw [hj, K13.cell]
                simpa using hu) (by simp [Value.oneCell']) (by unfold maxLen; omega) (by omega) (by have := BL.size; omega) ?_)
              intro v14 x6 O14 hg14 _
              have BW : Below (w.heap.size + 1) w4 x6 := (BL.mono hwl).grown hg14 (by have := BL.size; omega) (fun g e => by cases e; exact Nat.le_refl _)
              obtain ⟨a14, c14, rfl⟩ := nrow_any O14
              refine ⟨HSC.out _ BW, ?_⟩
              clear R14 hg14 K13 BL
              have hS := HSC.out x6 BW
              refine wpAnyH_take (i := 17) (v := .slice a14 2 c14) rfl (by kernel_rfl) (by kernel_rfl) (by kernel_rfl) (fun _ _ _ h => h) (.inl ⟨rfl, fun w' hS => by obtain ⟨s1, s2⟩ := hS; go_simp⟩) hS ?_
              refine wpAnyH_take (i := 18) (v := .slice (some ⟨z15, 0, none⟩) 0 0) rfl (by kernel_rfl) (by kernel_rfl) (by kernel_rfl) (fun _ _ _ h => h) (.inl ⟨rfl, fun w' hS => by obtain ⟨s1, s2⟩ := hS; go_simp⟩) hS ?_
              refine wpAnyH_take (i := 19) (v := .slice (some ⟨z16, 0, none⟩) 0 0) rfl (by kernel_rfl) (by kernel_rfl) (by kernel_rfl) (fun _ _ _ h => h) (.inl ⟨rfl, fun w' hS => by obtain ⟨s1, s2⟩ := hS; go_simp⟩) hS ?_
              clear hS
              refine wpAnyH_done (by kernel_rfl) ?_ _
              have HFB := hid (HB3.out.trans (BW.mono (by omega)))
              have HFR := hid (HTW.out _ _ O14)
              clear BW O14
              go_simp
              go_wp2
              go_ret3
              exact ⟨_, _, _, _, [], [], rfl, HY.out, HFR.out, .inl ⟨rfl, _, _, rfl⟩, .inl ⟨rfl, _, _, rfl⟩, HFB.out⟩
        · obtain ⟨x2, hnx⟩ : ∃ y, y = x1.alloc (.cells #[] 9) := ⟨_, rfl⟩
          have BL : Below w4.heap.size w4 x2 := by rw [hnx]; exact BL.alloc BL.size _
          refine op_value (v := .slice (some ⟨x1.heap.size, 0, none⟩) 0 0) (w' := x2) rfl rfl (by rw [hnx]; go_simp) ⟨HSC.out _ (BL.mono hwl), ?_⟩
          clear hnx
          obtain ⟨z15, hz15⟩ : ∃ z, z = x1.heap.size := ⟨_, rfl⟩
          rw [← hz15]
          clear hz15
          refine held_two 12 16 (by kernel_rfl) ?_ ?_
          · refine op_calls (f := 6) (args := #[.slice av ts.length cv, .string md, .string t, .int .i64 n]) rfl rfl (by go_simp) (HTB.out _ (HV3.out.below BL)) ?_
            rintro e x3 ⟨rfl, hbx⟩
            have BL := BL.trans (hbx.mono BL.size)
            refine ⟨_, rfl, HSC.out _ (BL.mono hwl), ?_⟩
            clear hbx
            refine held_two 13 16 (by kernel_rfl) ?_ ?_
            · obtain ⟨x4, hnx⟩ : ∃ y, y = x3.alloc (.cells #[.string f, .string md, .int .i64 (la : Nat), .string ma, .bool false, .slice none 0 0, .string md, .string t, .int .i64 (lb : Nat), .string mb, .bool false, .slice none 0 0] 25) := ⟨_, rfl⟩
              have K13 : Blk x4 x3.heap.size 25 #[.string f, .string md, .int .i64 (la : Nat), .string ma, .bool false, .slice none 0 0, .string md, .string t, .int .i64 (lb : Nat), .string mb, .bool false, .slice none 0 0] := by rw [hnx]; exact Blk.new _ _ _
              have BL : Below w4.heap.size w4 x4 := by rw [hnx]; exact BL.alloc BL.size _
              refine op_value (v := .slice (some ⟨x3.heap.size, 0, none⟩) 2 2) (w' := x4) rfl rfl (by rw [hnx]; go_simp) ⟨HSC.out _ (BL.mono hwl), ?_⟩
              clear hnx
              obtain ⟨z13, hz13⟩ : ∃ z, z = x3.heap.size := ⟨_, rfl⟩
              rw [← hz13] at K13 ⊢
              clear hz13
              refine held_two 14 16 (by kernel_rfl) ?_ ?_
              · have R14 := HR3.out.kept (grown_of_below BL) (.inr (by simp [Value.ownBlock]))
                refine op_wp rfl rfl (wp_append_own x4 (.tmp 86) (.tmp 99) 34 rfl (w.heap.size + 1) 25 i0 (.agg #[.string ⟨#[]⟩, .string ⟨#[]⟩, .int .i64 0, .string ⟨#[]⟩, .bool false, .slice none 0 0]) 6 88 Try.underlying34 hi0 hz0 hz1 hz2 rfl (by decide) (.slice (some ⟨w.heap.size + 1, 0, none⟩) 0 0) 0 [] (by go_simp) R14 ⟨z13, 0, none⟩ 2 2 [.string f, .string md, .int .i64 (la : Nat), .string ma, .bool false, .slice none 0 0, .string md, .string t, .int .i64 (lb : Nat), .string mb, .bool false, .slice none 0 0] (by go_simp) rfl (fun j u hu => by
                  have hj : (⟨z13, 0, none⟩ : Addr).add j = ⟨z13, j, none⟩ := by simp [Addr.add]; intro h; exact h.symm
                  rw [hj, K13.cell]
                  simpa using hu) (by simp [Value.oneCell']) (by unfold maxLen; omega) (by omega) (by have := BL.size; omega) ?_)
                intro v14 x5 O14 hg14 _
                have BW : Below (w.heap.size + 1) w4 x5 := (BL.mono hwl).grown hg14 (by have := BL.size; omega) (fun g e => by cases e; exact Nat.le_refl _)
                obtain ⟨a14, c14, rfl⟩ := nrow_any O14
                refine ⟨HSC.out _ BW, ?_⟩
                clear R14 hg14 K13 BL
                have hS := HSC.out x5 BW
                refine wpAnyH_take (i := 17) (v := .slice a14 2 c14) rfl (by kernel_rfl) (by kernel_rfl) (by kernel_rfl) (fun _ _ _ h => h) (.inl ⟨rfl, fun w' hS => by obtain ⟨s1, s2⟩ := hS; go_simp⟩) hS ?_
                refine wpAnyH_take (i := 18) (v := .slice (some ⟨z15, 0, none⟩) 0 0) rfl (by kernel_rfl) (by kernel_rfl) (by kernel_rfl) (fun _ _ _ h => h) (.inl ⟨rfl, fun w' hS => by obtain ⟨s1, s2⟩ := hS; go_simp⟩) hS ?_
                clear hS
                refine held_one 16 (by kernel_rfl) ?_
                obtain ⟨x6, hnx⟩ : ∃ y, y = x5.alloc (.cells #[] 9) := ⟨_, rfl⟩
                have BW : Below (w.heap.size + 1) w4 x6 := by rw [hnx]; exact BW.alloc (by have := BW.size; omega) _
                have O14 := Below.row (show Below x5.heap.size x5 x6 by rw [hnx]; exact (Below.refl _ _).alloc (Nat.le_refl _) _) O14
                refine op_value (v := .slice (some ⟨x5.heap.size, 0, none⟩) 0 0) (w' := x6) rfl rfl (by rw [hnx]; go_simp) ⟨HSC.out _ BW, ?_⟩
                clear hnx
                obtain ⟨z16, hz16⟩ : ∃ z, z = x5.heap.size := ⟨_, rfl⟩
                rw [← hz16]
                clear hz16
                have hS := HSC.out x6 BW
                refine wpAnyH_take (i := 19) (v := .slice (some ⟨z16, 0, none⟩) 0 0) rfl (by kernel_rfl) (by kernel_rfl) (by kernel_rfl) (fun _ _ _ h => h) (.inl ⟨rfl, fun w' hS => by obtain ⟨s1, s2⟩ := hS; go_simp⟩) hS ?_
                clear hS
                refine wpAnyH_done (by kernel_rfl) ?_ _
                have HFB := hid (HB3.out.trans (BW.mono (by omega)))
                have HFR := hid (HTW.out _ _ O14)
                clear BW O14
                go_simp
                go_wp2
                go_ret3
                exact ⟨_, _, _, _, [], [], rfl, HY.out, HFR.out, .inl ⟨rfl, _, _, rfl⟩, .inl ⟨rfl, _, _, rfl⟩, HFB.out⟩
              · obtain ⟨x5, hnx⟩ : ∃ y, y = x4.alloc (.cells #[] 9) := ⟨_, rfl⟩
                have K13 := K13.below (show Below x4.heap.size x4 x5 by rw [hnx]; exact (Below.refl _ _).alloc (Nat.le_refl _) _)
                have BL : Below w4.heap.size w4 x5 := by rw [hnx]; exact BL.alloc BL.size _
                refine op_value (v := .slice (some ⟨x4.heap.size, 0, none⟩) 0 0) (w' := x5) rfl rfl (by rw [hnx]; go_simp) ⟨HSC.out _ (BL.mono hwl), ?_⟩
                clear hnx
                obtain ⟨z16, hz16⟩ : ∃ z, z = x4.heap.size := ⟨_, rfl⟩
                rw [← hz16]
                clear hz16
                refine held_one 14 (by kernel_rfl) ?_
                have R14 := HR3.out.kept (grown_of_below BL) (.inr (by simp [Value.ownBlock]))
                refine op_wp rfl rfl (wp_append_own x5 (.tmp 86) (.tmp 99) 34 rfl (w.heap.size + 1) 25 i0 (.agg #[.string ⟨#[]⟩, .string ⟨#[]⟩, .int .i64 0, .string ⟨#[]⟩, .bool false, .slice none 0 0]) 6 88 Try.underlying34 hi0 hz0 hz1 hz2 rfl (by decide) (.slice (some ⟨w.heap.size + 1, 0, none⟩) 0 0) 0 [] (by go_simp) R14 ⟨z13, 0, none⟩ 2 2 [.string f, .string md, .int .i64 (la : Nat), .string ma, .bool false, .slice none 0 0, .string md, .string t, .int .i64 (lb : Nat), .string mb, .bool false, .slice none 0 0] (by go_simp) rfl (fun j u hu => by
                  have hj : (⟨z13, 0, none⟩ : Addr).add j = ⟨z13, j, none⟩ := by simp [Addr.add]; intro h; exact h.symm
                  rw [hj, K13.cell]
                  simpa using hu) (by simp [Value.oneCell']) (by unfold maxLen; omega) (by omega) (by have := BL.size; omega) ?_)
                intro v14 x6 O14 hg14 _
                have BW : Below (w.heap.size + 1) w4 x6 := (BL.mono hwl).grown hg14 (by have := BL.size; omega) (fun g e => by cases e; exact Nat.le_refl _)
                obtain ⟨a14, c14, rfl⟩ := nrow_any O14
                refine ⟨HSC.out _ BW, ?_⟩
                clear R14 hg14 K13 BL
                have hS := HSC.out x6 BW
                refine wpAnyH_take (i := 17) (v := .slice a14 2 c14) rfl (by kernel_rfl) (by kernel_rfl) (by kernel_rfl) (fun _ _ _ h => h) (.inl ⟨rfl, fun w' hS => by obtain ⟨s1, s2⟩ := hS; go_simp⟩) hS ?_
                refine wpAnyH_take (i := 18) (v := .slice (some ⟨z15, 0, none⟩) 0 0) rfl (by kernel_rfl) (by kernel_rfl) (by kernel_rfl) (fun _ _ _ h => h) (.inl ⟨rfl, fun w' hS => by obtain ⟨s1, s2⟩ := hS; go_simp⟩) hS ?_
                refine wpAnyH_take (i := 19) (v := .slice (some ⟨z16, 0, none⟩) 0 0) rfl (by kernel_rfl) (by kernel_rfl) (by kernel_rfl) (fun _ _ _ h => h) (.inl ⟨rfl, fun w' hS => by obtain ⟨s1, s2⟩ := hS; go_simp⟩) hS ?_
                clear hS
                refine wpAnyH_done (by kernel_rfl) ?_ _
                have HFB := hid (HB3.out.trans (BW.mono (by omega)))
                have HFR := hid (HTW.out _ _ O14)
                clear BW O14
                go_simp
                go_wp2
                go_ret3
                exact ⟨_, _, _, _, [], [], rfl, HY.out, HFR.out, .inl ⟨rfl, _, _, rfl⟩, .inl ⟨rfl, _, _, rfl⟩, HFB.out⟩
            · obtain ⟨x4, hnx⟩ : ∃ y, y = x3.alloc (.cells #[] 9) := ⟨_, rfl⟩
              have BL : Below w4.heap.size w4 x4 := by rw [hnx]; exact BL.alloc BL.size _
              refine op_value (v := .slice (some ⟨x3.heap.size, 0, none⟩) 0 0) (w' := x4) rfl rfl (by rw [hnx]; go_simp) ⟨HSC.out _ (BL.mono hwl), ?_⟩
              clear hnx
              obtain ⟨z16, hz16⟩ : ∃ z, z = x3.heap.size := ⟨_, rfl⟩
              rw [← hz16]
              clear hz16
              refine held_one 13 (by kernel_rfl) ?_
              obtain ⟨x5, hnx⟩ : ∃ y, y = x4.alloc (.cells #[.string f, .string md, .int .i64 (la : Nat), .string ma, .bool false, .slice none 0 0, .string md, .string t, .int .i64 (lb : Nat), .string mb, .bool false, .slice none 0 0] 25) := ⟨_, rfl⟩
              have K13 : Blk x5 x4.heap.size 25 #[.string f, .string md, .int .i64 (la : Nat), .string ma, .bool false, .slice none 0 0, .string md, .string t, .int .i64 (lb : Nat), .string mb, .bool false, .slice none 0 0] := by rw [hnx]; exact Blk.new _ _ _
              have BL : Below w4.heap.size w4 x5 := by rw [hnx]; exact BL.alloc BL.size _
              refine op_value (v := .slice (some ⟨x4.heap.size, 0, none⟩) 2 2) (w' := x5) rfl rfl (by rw [hnx]; go_simp) ⟨HSC.out _ (BL.mono hwl), ?_⟩
              clear hnx
              obtain ⟨z13, hz13⟩ : ∃ z, z = x4.heap.size := ⟨_, rfl⟩
              rw [← hz13] at K13 ⊢
              clear hz13
              refine held_one 14 (by kernel_rfl) ?_
              have R14 := HR3.out.kept (grown_of_below BL) (.inr (by simp [Value.ownBlock]))
              refine op_wp rfl rfl (wp_append_own x5 (.tmp 86) (.tmp 99) 34 rfl (w.heap.size + 1) 25 i0 (.agg #[.string ⟨#[]⟩, .string ⟨#[]⟩, .int .i64 0, .string ⟨#[]⟩, .bool false, .slice none 0 0]) 6 88 Try.underlying34 hi0 hz0 hz1 hz2 rfl (by decide) (.slice (some ⟨w.heap.size + 1, 0, none⟩) 0 0) 0 [] (by go_simp) R14 ⟨z13, 0, none⟩ 2 2 [.string f, .string md, .int .i64 (la : Nat), .string ma, .bool false, .slice none 0 0, .string md, .string t, .int .i64 (lb : Nat), .string mb, .bool false, .slice none 0 0] (by go_simp) rfl (fun j u hu => by
                have hj : (⟨z13, 0, none⟩ : Addr).add j = ⟨z13, j, none⟩ := by simp [Addr.add]; intro h; exact h.symm
                rw [hj, K13.cell]
                simpa using hu) (by simp [Value.oneCell']) (by unfold maxLen; omega) (by omega) (by have := BL.size; omega) ?_)
              intro v14 x6 O14 hg14 _
              have BW : Below (w.heap.size + 1) w4 x6 := (BL.mono hwl).grown hg14 (by have := BL.size; omega) (fun g e => by cases e; exact Nat.le_refl _)
              obtain ⟨a14, c14, rfl⟩ := nrow_any O14
              refine ⟨HSC.out _ BW, ?_⟩
              clear R14 hg14 K13 BL
              have hS := HSC.out x6 BW
              refine wpAnyH_take (i := 17) (v := .slice a14 2 c14) rfl (by kernel_rfl) (by kernel_rfl) (by kernel_rfl) (fun _ _ _ h => h) (.inl ⟨rfl, fun w' hS => by obtain ⟨s1, s2⟩ := hS; go_simp⟩) hS ?_
              refine wpAnyH_take (i := 18) (v := .slice (some ⟨z15, 0, none⟩) 0 0) rfl (by kernel_rfl) (by kernel_rfl) (by kernel_rfl) (fun _ _ _ h => h) (.inl ⟨rfl, fun w' hS => by obtain ⟨s1, s2⟩ := hS; go_simp⟩) hS ?_
              refine wpAnyH_take (i := 19) (v := .slice (some ⟨z16, 0, none⟩) 0 0) rfl (by kernel_rfl) (by kernel_rfl) (by kernel_rfl) (fun _ _ _ h => h) (.inl ⟨rfl, fun w' hS => by obtain ⟨s1, s2⟩ := hS; go_simp⟩) hS ?_
              clear hS
              refine wpAnyH_done (by kernel_rfl) ?_ _
              have HFB := hid (HB3.out.trans (BW.mono (by omega)))
              have HFR := hid (HTW.out _ _ O14)
              clear BW O14
              go_simp
              go_wp2
              go_ret3
              exact ⟨_, _, _, _, [], [], rfl, HY.out, HFR.out, .inl ⟨rfl, _, _, rfl⟩, .inl ⟨rfl, _, _, rfl⟩, HFB.out⟩
          · obtain ⟨x3, hnx⟩ : ∃ y, y = x2.alloc (.cells #[] 9) := ⟨_, rfl⟩
            have BL : Below w4.heap.size w4 x3 := by rw [hnx]; exact BL.alloc BL.size _
            refine op_value (v := .slice (some ⟨x2.heap.size, 0, none⟩) 0 0) (w' := x3) rfl rfl (by rw [hnx]; go_simp) ⟨HSC.out _ (BL.mono hwl), ?_⟩
            clear hnx
            obtain ⟨z16, hz16⟩ : ∃ z, z = x2.heap.size := ⟨_, rfl⟩
            rw [← hz16]
            clear hz16
            refine held_one 12 (by kernel_rfl) ?_
            refine op_calls (f := 6) (args := #[.slice av ts.length cv, .string md, .string t, .int .i64 n]) rfl rfl (by go_simp) (HTB.out _ (HV3.out.below BL)) ?_
            rintro e x4 ⟨rfl, hbx⟩
            have BL := BL.trans (hbx.mono BL.size)
            refine ⟨_, rfl, HSC.out _ (BL.mono hwl), ?_⟩
            clear hbx
            refine held_one 13 (by kernel_rfl) ?_
            obtain ⟨x5, hnx⟩ : ∃ y, y = x4.alloc (.cells #[.string f, .string md, .int .i64 (la : Nat), .string ma, .bool false, .slice none 0 0, .string md, .string t, .int .i64 (lb : Nat), .string mb, .bool false, .slice none 0 0] 25) := ⟨_, rfl⟩
            have K13 : Blk x5 x4.heap.size 25 #[.string f, .string md, .int .i64 (la : Nat), .string ma, .bool false, .slice none 0 0, .string md, .string t, .int .i64 (lb : Nat), .string mb, .bool false, .slice none 0 0] := by rw [hnx]; exact Blk.new _ _ _
            have BL : Below w4.heap.size w4 x5 := by rw [hnx]; exact BL.alloc BL.size _
            refine op_value (v := .slice (some ⟨x4.heap.size, 0, none⟩) 2 2) (w' := x5) rfl rfl (by rw [hnx]; go_simp) ⟨HSC.out _ (BL.mono hwl), ?_⟩
            clear hnx
            obtain ⟨z13, hz13⟩ : ∃ z, z = x4.heap.size := ⟨_, rfl⟩
            rw [← hz13] at K13 ⊢
            clear hz13
            refine held_one 14 (by kernel_rfl) ?_
            have R14 := HR3.out.kept (grown_of_below BL) (.inr (by simp [Value.ownBlock]))
            refine op_wp rfl rfl (wp_append_own x5 (.tmp 86) (.tmp 99) 34 rfl (w.heap.size + 1) 25 i0 (.agg #[.string ⟨#[]⟩, .string ⟨#[]⟩, .int .i64 0, .string ⟨#[]⟩, .bool false, .slice none 0 0]) 6 88 Try.underlying34 hi0 hz0 hz1 hz2 rfl (by decide) (.slice (some ⟨w.heap.size + 1, 0, none⟩) 0 0) 0 [] (by go_simp) R14 ⟨z13, 0, none⟩ 2 2 [.string f, .string md, .int .i64 (la : Nat), .string ma, .bool false, .slice none 0 0, .string md, .string t, .int .i64 (lb : Nat), .string mb, .bool false, .slice none 0 0] (by go_simp) rfl (fun j u hu => by
              have hj : (⟨z13, 0, none⟩ : Addr).add j = ⟨z13, j, none⟩ := by simp [Addr.add]; intro h; exact h.symm
              rw [hj, K13.cell]
              simpa using hu) (by simp [Value.oneCell']) (by unfold maxLen; omega) (by omega) (by have := BL.size; omega) ?_)
            intro v14 x6 O14 hg14 _
            have BW : Below (w.heap.size + 1) w4 x6 := (BL.mono hwl).grown hg14 (by have := BL.size; omega) (fun g e => by cases e; exact Nat.le_refl _)
            obtain ⟨a14, c14, rfl⟩ := nrow_any O14
            refine ⟨HSC.out _ BW, ?_⟩
            clear R14 hg14 K13 BL
            have hS := HSC.out x6 BW
            refine wpAnyH_take (i := 17) (v := .slice a14 2 c14) rfl (by kernel_rfl) (by kernel_rfl) (by kernel_rfl) (fun _ _ _ h => h) (.inl ⟨rfl, fun w' hS => by obtain ⟨s1, s2⟩ := hS; go_simp⟩) hS ?_
            refine wpAnyH_take (i := 18) (v := .slice (some ⟨z15, 0, none⟩) 0 0) rfl (by kernel_rfl) (by kernel_rfl) (by kernel_rfl) (fun _ _ _ h => h) (.inl ⟨rfl, fun w' hS => by obtain ⟨s1, s2⟩ := hS; go_simp⟩) hS ?_
            refine wpAnyH_take (i := 19) (v := .slice (some ⟨z16, 0, none⟩) 0 0) rfl (by kernel_rfl) (by kernel_rfl) (by kernel_rfl) (fun _ _ _ h => h) (.inl ⟨rfl, fun w' hS => by obtain ⟨s1, s2⟩ := hS; go_simp⟩) hS ?_
            clear hS
            refine wpAnyH_done (by kernel_rfl) ?_ _
            have HFB := hid (HB3.out.trans (BW.mono (by omega)))
            have HFR := hid (HTW.out _ _ O14)
            clear BW O14
            go_simp
            go_wp2
            go_ret3
            exact ⟨_, _, _, _, [], [], rfl, HY.out, HFR.out, .inl ⟨rfl, _, _, rfl⟩, .inl ⟨rfl, _, _, rfl⟩, HFB.out⟩
        · obtain ⟨x2, hnx⟩ : ∃ y, y = x1.alloc (.cells #[] 9) := ⟨_, rfl⟩
          have BL : Below w4.heap.size w4 x2 := by rw [hnx]; exact BL.alloc BL.size _
          refine op_value (v := .slice (some ⟨x1.heap.size, 0, none⟩) 0 0) (w' := x2) rfl rfl (by rw [hnx]; go_simp) ⟨HSC.out _ (BL.mono hwl), ?_⟩
          clear hnx
          obtain ⟨z16, hz16⟩ : ∃ z, z = x1.heap.size := ⟨_, rfl⟩
          rw [← hz16]
          clear hz16
          refine held_two 12 15 (by kernel_rfl) ?_ ?_
          · refine op_calls (f := 6) (args := #[.slice av ts.length cv, .string md, .string t, .int .i64 n]) rfl rfl (by go_simp) (HTB.out _ (HV3.out.below BL)) ?_
            rintro e x3 ⟨rfl, hbx⟩
            have BL := BL.trans (hbx.mono BL.size)
            refine ⟨_, rfl, HSC.out _ (BL.mono hwl), ?_⟩
            clear hbx
            refine held_two 13 15 (by kernel_rfl) ?_ ?_
            · obtain ⟨x4, hnx⟩ : ∃ y, y = x3.alloc (.cells #[.string f, .string md, .int .i64 (la : Nat), .string ma, .bool false, .slice none 0 0, .string md, .string t, .int .i64 (lb : Nat), .string mb, .bool false, .slice none 0 0] 25) := ⟨_, rfl⟩
              have K13 : Blk x4 x3.heap.size 25 #[.string f, .string md, .int .i64 (la : Nat), .string ma, .bool false, .slice none 0 0, .string md, .string t, .int .i64 (lb : Nat), .string mb, .bool false, .slice none 0 0] := by rw [hnx]; exact Blk.new _ _ _
              have BL : Below w4.heap.size w4 x4 := by rw [hnx]; exact BL.alloc BL.size _
              refine op_value (v := .slice (some ⟨x3.heap.size, 0, none⟩) 2 2) (w' := x4) rfl rfl (by rw [hnx]; go_simp) ⟨HSC.out _ (BL.mono hwl), ?_⟩
              clear hnx
              obtain ⟨z13, hz13⟩ : ∃ z, z = x3.heap.size := ⟨_, rfl⟩
              rw [← hz13] at K13 ⊢
              clear hz13
              refine held_two 14 15 (by kernel_rfl) ?_ ?_
              · have R14 := HR3.out.kept (grown_of_below BL) (.inr (by simp [Value.ownBlock]))
                refine op_wp rfl rfl (wp_append_own x4 (.tmp 86) (.tmp 99) 34 rfl (w.heap.size + 1) 25 i0 (.agg #[.string ⟨#[]⟩, .string ⟨#[]⟩, .int .i64 0, .string ⟨#[]⟩, .bool false, .slice none 0 0]) 6 88 Try.underlying34 hi0 hz0 hz1 hz2 rfl (by decide) (.slice (some ⟨w.heap.size + 1, 0, none⟩) 0 0) 0 [] (by go_simp) R14 ⟨z13, 0, none⟩ 2 2 [.string f, .string md, .int .i64 (la : Nat), .string ma, .bool false, .slice none 0 0, .string md, .string t, .int .i64 (lb : Nat), .string mb, .bool false, .slice none 0 0] (by go_simp) rfl (fun j u hu => by
                  have hj : (⟨z13, 0, none⟩ : Addr).add j = ⟨z13, j, none⟩ := by simp [Addr.add]; intro h; exact h.symm
                  rw [hj, K13.cell]
                  simpa using hu) (by simp [Value.oneCell']) (by unfold maxLen; omega) (by omega) (by have := BL.size; omega) ?_)
                intro v14 x5 O14 hg14 _
                have BW : Below (w.heap.size + 1) w4 x5 := (BL.mono hwl).grown hg14 (by have := BL.size; omega) (fun g e => by cases e; exact Nat.le_refl _)
                obtain ⟨a14, c14, rfl⟩ := nrow_any O14
                refine ⟨HSC.out _ BW, ?_⟩
                clear R14 hg14 K13 BL
                have hS := HSC.out x5 BW
                refine wpAnyH_take (i := 17) (v := .slice a14 2 c14) rfl (by kernel_rfl) (by kernel_rfl) (by kernel_rfl) (fun _ _ _ h => h) (.inl ⟨rfl, fun w' hS => by obtain ⟨s1, s2⟩ := hS; go_simp⟩) hS ?_
                clear hS
                refine held_one 15 (by kernel_rfl) ?_
                obtain ⟨x6, hnx⟩ : ∃ y, y = x5.alloc (.cells #[] 9) := ⟨_, rfl⟩
                have BW : Below (w.heap.size + 1) w4 x6 := by rw [hnx]; exact BW.alloc (by have := BW.size; omega) _
                have O14 := Below.row (show Below x5.heap.size x5 x6 by rw [hnx]; exact (Below.refl _ _).alloc (Nat.le_refl _) _) O14
                refine op_value (v := .slice (some ⟨x5.heap.size, 0, none⟩) 0 0) (w' := x6) rfl rfl (by rw [hnx]; go_simp) ⟨HSC.out _ BW, ?_⟩
                clear hnx
                obtain ⟨z15, hz15⟩ : ∃ z, z = x5.heap.size := ⟨_, rfl⟩
                rw [← hz15]
                clear hz15
                have hS := HSC.out x6 BW
                refine wpAnyH_take (i := 18) (v := .slice (some ⟨z15, 0, none⟩) 0 0) rfl (by kernel_rfl) (by kernel_rfl) (by kernel_rfl) (fun _ _ _ h => h) (.inl ⟨rfl, fun w' hS => by obtain ⟨s1, s2⟩ := hS; go_simp⟩) hS ?_
                refine wpAnyH_take (i := 19) (v := .slice (some ⟨z16, 0, none⟩) 0 0) rfl (by kernel_rfl) (by kernel_rfl) (by kernel_rfl) (fun _ _ _ h => h) (.inl ⟨rfl, fun w' hS => by obtain ⟨s1, s2⟩ := hS; go_simp⟩) hS ?_
                clear hS
                refine wpAnyH_done (by kernel_rfl) ?_ _
                have HFB := hid (HB3.out.trans (BW.mono (by omega)))
                have HFR := hid (HTW.out _ _ O14)
                clear BW O14
                go_simp
                go_wp2
                go_ret3
                exact ⟨_, _, _, _, [], [], rfl, HY.out, HFR.out, .inl ⟨rfl, _, _, rfl⟩, .inl ⟨rfl, _, _, rfl⟩, HFB.out⟩
              · obtain ⟨x5, hnx⟩ : ∃ y, y = x4.alloc (.cells #[] 9) := ⟨_, rfl⟩
                have K13 := K13.below (show Below x4.heap.size x4 x5 by rw [hnx]; exact (Below.refl _ _).alloc (Nat.le_refl _) _)
                have BL : Below w4.heap.size w4 x5 := by rw [hnx]; exact BL.alloc BL.size _
                refine op_value (v := .slice (some ⟨x4.heap.size, 0, none⟩) 0 0) (w' := x5) rfl rfl (by rw [hnx]; go_simp) ⟨HSC.out _ (BL.mono hwl), ?_⟩
                clear hnx
                obtain ⟨z15, hz15⟩ : ∃ z, z = x4.heap.size := ⟨_, rfl⟩
                rw [← hz15]
                clear hz15
                refine held_one 14 (by kernel_rfl) ?_
                have R14 := HR3.out.kept (grown_of_below BL) (.inr (by simp [Value.ownBlock]))
                refine op_wp rfl rfl (wp_append_own x5 (.tmp 86) (.tmp 99) 34 rfl (w.heap.size + 1) 25 i0 (.agg #[.string ⟨#[]⟩, .string ⟨#[]⟩, .int .i64 0, .string ⟨#[]⟩, .bool false, .slice none 0 0]) 6 88 Try.underlying34 hi0 hz0 hz1 hz2 rfl (by decide) (.slice (some ⟨w.heap.size + 1, 0, none⟩) 0 0) 0 [] (by go_simp) R14 ⟨z13, 0, none⟩ 2 2 [.string f, .string md, .int .i64 (la : Nat), .string ma, .bool false, .slice none 0 0, .string md, .string t, .int .i64 (lb : Nat), .string mb, .bool false, .slice none 0 0] (by go_simp) rfl (fun j u hu => by
                  have hj : (⟨z13, 0, none⟩ : Addr).add j = ⟨z13, j, none⟩ := by simp [Addr.add]; intro h; exact h.symm
                  rw [hj, K13.cell]
                  simpa using hu) (by simp [Value.oneCell']) (by unfold maxLen; omega) (by omega) (by have := BL.size; omega) ?_)
                intro v14 x6 O14 hg14 _
                have BW : Below (w.heap.size + 1) w4 x6 := (BL.mono hwl).grown hg14 (by have := BL.size; omega) (fun g e => by cases e; exact Nat.le_refl _)
                obtain ⟨a14, c14, rfl⟩ := nrow_any O14
                refine ⟨HSC.out _ BW, ?_⟩
                clear R14 hg14 K13 BL
                have hS := HSC.out x6 BW
                refine wpAnyH_take (i := 17) (v := .slice a14 2 c14) rfl (by kernel_rfl) (by kernel_rfl) (by kernel_rfl) (fun _ _ _ h => h) (.inl ⟨rfl, fun w' hS => by obtain ⟨s1, s2⟩ := hS; go_simp⟩) hS ?_
                refine wpAnyH_take (i := 18) (v := .slice (some ⟨z15, 0, none⟩) 0 0) rfl (by kernel_rfl) (by kernel_rfl) (by kernel_rfl) (fun _ _ _ h => h) (.inl ⟨rfl, fun w' hS => by obtain ⟨s1, s2⟩ := hS; go_simp⟩) hS ?_
                refine wpAnyH_take (i := 19) (v := .slice (some ⟨z16, 0, none⟩) 0 0) rfl (by kernel_rfl) (by kernel_rfl) (by kernel_rfl) (fun _ _ _ h => h) (.inl ⟨rfl, fun w' hS => by obtain ⟨s1, s2⟩ := hS; go_simp⟩) hS ?_
                clear hS
                refine wpAnyH_done (by kernel_rfl) ?_ _
                have HFB := hid (HB3.out.trans (BW.mono (by omega)))
                have HFR := hid (HTW.out _ _ O14)
                clear BW O14
                go_simp
                go_wp2
                go_ret3
                exact ⟨_, _, _, _, [], [], rfl, HY.out, HFR.out, .inl ⟨rfl, _, _, rfl⟩, .inl ⟨rfl, _, _, rfl⟩, HFB.out⟩
            · obtain ⟨x4, hnx⟩ : ∃ y, y = x3.alloc (.cells #[] 9) := ⟨_, rfl⟩
              have BL : Below w4.heap.size w4 x4 := by rw [hnx]; exact BL.alloc BL.size _
              refine op_value (v := .slice (some ⟨x3.heap.size, 0, none⟩) 0 0) (w' := x4) rfl rfl (by rw [hnx]; go_simp) ⟨HSC.out _ (BL.mono hwl), ?_⟩
              clear hnx
              obtain ⟨z15, hz15⟩ : ∃ z, z = x3.heap.size := ⟨_, rfl⟩
              rw [← hz15]
              clear hz15
              refine held_one 13 (by kernel_rfl) ?_
              obtain ⟨x5, hnx⟩ : ∃ y, y = x4.alloc (.cells #[.string f, .string md, .int .i64 (la : Nat), .string ma, .bool false, .slice none 0 0, .string md, .string t, .int .i64 (lb : Nat), .string mb, .bool false, .slice none 0 0] 25) := ⟨_, rfl⟩
              have K13 : Blk x5 x4.heap.size 25 #[.string f, .string md, .int .i64 (la : Nat), .string ma, .bool false, .slice none 0 0, .string md, .string t, .int .i64 (lb : Nat), .string mb, .bool false, .slice none 0 0] := by rw [hnx]; exact Blk.new _ _ _
              have BL : Below w4.heap.size w4 x5 := by rw [hnx]; exact BL.alloc BL.size _
              refine op_value (v := .slice (some ⟨x4.heap.size, 0, none⟩) 2 2) (w' := x5) rfl rfl (by rw [hnx]; go_simp) ⟨HSC.out _ (BL.mono hwl), ?_⟩
              clear hnx
              obtain ⟨z13, hz13⟩ : ∃ z, z = x4.heap.size := ⟨_, rfl⟩
              rw [← hz13] at K13 ⊢
              clear hz13
              refine held_one 14 (by kernel_rfl) ?_
              have R14 := HR3.out.kept (grown_of_below BL) (.inr (by simp [Value.ownBlock]))
              refine op_wp rfl rfl (wp_append_own x5 (.tmp 86) (.tmp 99) 34 rfl (w.heap.size + 1) 25 i0 (.agg #[.string ⟨#[]⟩, .string ⟨#[]⟩, .int .i64 0, .string ⟨#[]⟩, .bool false, .slice none 0 0]) 6 88 Try.underlying34 hi0 hz0 hz1 hz2 rfl (by decide) (.slice (some ⟨w.heap.size + 1, 0, none⟩) 0 0) 0 [] (by go_simp) R14 ⟨z13, 0, none⟩ 2 2 [.string f, .string md, .int .i64 (la : Nat), .string ma, .bool false, .slice none 0 0, .string md, .string t, .int .i64 (lb : Nat), .string mb, .bool false, .slice none 0 0] (by go_simp) rfl (fun j u hu => by
                have hj : (⟨z13, 0, none⟩ : Addr).add j = ⟨z13, j, none⟩ := by simp [Addr.add]; intro h; exact h.symm
                rw [hj, K13.cell]
                simpa using hu) (by simp [Value.oneCell']) (by unfold maxLen; omega) (by omega) (by have := BL.size; omega) ?_)
              intro v14 x6 O14 hg14 _
              have BW : Below (w.heap.size + 1) w4 x6 := (BL.mono hwl).grown hg14 (by have := BL.size; omega) (fun g e => by cases e; exact Nat.le_refl _)
              obtain ⟨a14, c14, rfl⟩ := nrow_any O14
              refine ⟨HSC.out _ BW, ?_⟩
              clear R14 hg14 K13 BL
              have hS := HSC.out x6 BW
              refine wpAnyH_take (i := 17) (v := .slice a14 2 c14) rfl (by kernel_rfl) (by kernel_rfl) (by kernel_rfl) (fun _ _ _ h => h) (.inl ⟨rfl, fun w' hS => by obtain ⟨s1, s2⟩ := hS; go_simp⟩) hS ?_
              refine wpAnyH_take (i := 18) (v := .slice (some ⟨z15, 0, none⟩) 0 0) rfl (by kernel_rfl) (by kernel_rfl) (by kernel_rfl) (fun _ _ _ h => h) (.inl ⟨rfl, fun w' hS => by obtain ⟨s1, s2⟩ := hS; go_simp⟩) hS ?_
              refine wpAnyH_take (i := 19) (v := .slice (some ⟨z16, 0, none⟩) 0 0) rfl (by kernel_rfl) (by kernel_rfl) (by kernel_rfl) (fun _ _ _ h => h) (.inl ⟨rfl, fun w' hS => by obtain ⟨s1, s2⟩ := hS; go_simp⟩) hS ?_
              clear hS
              refine wpAnyH_done (by kernel_rfl) ?_ _
              have HFB := hid (HB3.out.trans (BW.mono (by omega)))
              have HFR := hid (HTW.out _ _ O14)
              clear BW O14
              go_simp
              go_wp2
              go_ret3
              exact ⟨_, _, _, _, [], [], rfl, HY.out, HFR.out, .inl ⟨rfl, _, _, rfl⟩, .inl ⟨rfl, _, _, rfl⟩, HFB.out⟩
          · obtain ⟨x3, hnx⟩ : ∃ y, y = x2.alloc (.cells #[] 9) := ⟨_, rfl⟩
            have BL : Below w4.heap.size w4 x3 := by rw [hnx]; exact BL.alloc BL.size _
            refine op_value (v := .slice (some ⟨x2.heap.size, 0, none⟩) 0 0) (w' := x3) rfl rfl (by rw [hnx]; go_simp) ⟨HSC.out _ (BL.mono hwl), ?_⟩
            clear hnx
            obtain ⟨z15, hz15⟩ : ∃ z, z = x2.heap.size := ⟨_, rfl⟩
            rw [← hz15]
            clear hz15
            refine held_one 12 (by kernel_rfl) ?_
            refine op_calls (f := 6) (args := #[.slice av ts.length cv, .string md, .string t, .int .i64 n]) rfl rfl (by go_simp) (HTB.out _ (HV3.out.below BL)) ?_
            rintro e x4 ⟨rfl, hbx⟩
            have BL := BL.trans (hbx.mono BL.size)
            refine ⟨_, rfl, HSC.out _ (BL.mono hwl), ?_⟩
            clear hbx
            refine held_one 13 (by kernel_rfl) ?_
            obtain ⟨x5, hnx⟩ : ∃ y, y = x4.alloc (.cells #[.string f, .string md, .int .i64 (la : Nat), .string ma, .bool false, .slice none 0 0, .string md, .string t, .int .i64 (lb : Nat), .string mb, .bool false, .slice none 0 0] 25) := ⟨_, rfl⟩
            have K13 : Blk x5 x4.heap.size 25 #[.string f, .string md, .int .i64 (la : Nat), .string ma, .bool false, .slice none 0 0, .string md, .string t, .int .i64 (lb : Nat), .string mb, .bool false, .slice none 0 0] := by rw [hnx]; exact Blk.new _ _ _
            have BL : Below w4.heap.size w4 x5 := by rw [hnx]; exact BL.alloc BL.size _
            refine op_value (v := .slice (some ⟨x4.heap.size, 0, none⟩) 2 2) (w' := x5) rfl rfl (by rw [hnx]; go_simp) ⟨HSC.out _ (BL.mono hwl), ?_⟩
            clear hnx
            obtain ⟨z13, hz13⟩ : ∃ z, z = x4.heap.size := ⟨_, rfl⟩
            rw [← hz13] at K13 ⊢
            clear hz13
            refine held_one 14 (by kernel_rfl) ?_
            have R14 := HR3.out.kept (grown_of_below BL) (.inr (by simp [Value.ownBlock]))
            refine op_wp rfl rfl (wp_append_own x5 (.tmp 86) (.tmp 99) 34 rfl (w.heap.size + 1) 25 i0 (.agg #[.string ⟨#[]⟩, .string ⟨#[]⟩, .int .i64 0, .string ⟨#[]⟩, .bool false, .slice none 0 0]) 6 88 Try.underlying34 hi0 hz0 hz1 hz2 rfl (by decide) (.slice (some ⟨w.heap.size + 1, 0, none⟩) 0 0) 0 [] (by go_simp) R14 ⟨z13, 0, none⟩ 2 2 [.string f, .string md, .int .i64 (la : Nat), .string ma, .bool false, .slice none 0 0, .string md, .string t, .int .i64 (lb : Nat), .string mb, .bool false, .slice none 0 0] (by go_simp) rfl (fun j u hu => by
              have hj : (⟨z13, 0, none⟩ : Addr).add j = ⟨z13, j, none⟩ := by simp [Addr.add]; intro h; exact h.symm
              rw [hj, K13.cell]
              simpa using hu) (by simp [Value.oneCell']) (by unfold maxLen; omega) (by omega) (by have := BL.size; omega) ?_)
            intro v14 x6 O14 hg14 _
            have BW : Below (w.heap.size + 1) w4 x6 := (BL.mono hwl).grown hg14 (by have := BL.size; omega) (fun g e => by cases e; exact Nat.le_refl _)
            obtain ⟨a14, c14, rfl⟩ := nrow_any O14
            refine ⟨HSC.out _ BW, ?_⟩
            clear R14 hg14 K13 BL
            have hS := HSC.out x6 BW
            refine wpAnyH_take (i := 17) (v := .slice a14 2 c14) rfl (by kernel_rfl) (by kernel_rfl) (by kernel_rfl) (fun _ _ _ h => h) (.inl ⟨rfl, fun w' hS => by obtain ⟨s1, s2⟩ := hS; go_simp⟩) hS ?_
            refine wpAnyH_take (i := 18) (v := .slice (some ⟨z15, 0, none⟩) 0 0) rfl (by kernel_rfl) (by kernel_rfl) (by kernel_rfl) (fun _ _ _ h => h) (.inl ⟨rfl, fun w' hS => by obtain ⟨s1, s2⟩ := hS; go_simp⟩) hS ?_
            refine wpAnyH_take (i := 19) (v := .slice (some ⟨z16, 0, none⟩) 0 0) rfl (by kernel_rfl) (by kernel_rfl) (by kernel_rfl) (fun _ _ _ h => h) (.inl ⟨rfl, fun w' hS => by obtain ⟨s1, s2⟩ := hS; go_simp⟩) hS ?_
            clear hS
            refine wpAnyH_done (by kernel_rfl) ?_ _
            have HFB := hid (HB3.out.trans (BW.mono (by omega)))
            have HFR := hid (HTW.out _ _ O14)
            clear BW O14
            go_simp
            go_wp2
            go_ret3
            exact ⟨_, _, _, _, [], [], rfl, HY.out, HFR.out, .inl ⟨rfl, _, _, rfl⟩, .inl ⟨rfl, _, _, rfl⟩, HFB.out⟩
      · obtain ⟨x1, hnx⟩ : ∃ y, y = x0.alloc (.cells #[] 9) := ⟨_, rfl⟩
        have BL : Below w4.heap.size w4 x1 := by rw [hnx]; exact BL.alloc BL.size _
        refine op_value (v := .slice (some ⟨x0.heap.size, 0, none⟩) 0 0) (w' := x1) rfl rfl (by rw [hnx]; go_simp) ⟨HSC.out _ (BL.mono hwl), ?_⟩
        clear hnx
        obtain ⟨z15, hz15⟩ : ∃ z, z = x0.heap.size := ⟨_, rfl⟩
        rw [← hz15]
        clear hz15
        refine held_two 6 16 (by kernel_rfl) ?_ ?_
        · refine op_calls (f := 6) (args := #[.slice av ts.length cv, .string f, .string md, .int .i64 n]) rfl rfl (by go_simp) (HTA.out _ (HV3.out.below BL)) ?_
          rintro e x2 ⟨rfl, hbx⟩
          have BL := BL.trans (hbx.mono BL.size)
          refine ⟨_, rfl, HSC.out _ (BL.mono hwl), ?_⟩
          clear hbx
          refine held_two 12 16 (by kernel_rfl) ?_ ?_
          · refine op_calls (f := 6) (args := #[.slice av ts.length cv, .string md, .string t, .int .i64 n]) rfl rfl (by go_simp) (HTB.out _ (HV3.out.below BL)) ?_
            rintro e x3 ⟨rfl, hbx⟩
            have BL := BL.trans (hbx.mono BL.size)
            refine ⟨_, rfl, HSC.out _ (BL.mono hwl), ?_⟩
            clear hbx
            refine held_two 13 16 (by kernel_rfl) ?_ ?_
            · obtain ⟨x4, hnx⟩ : ∃ y, y = x3.alloc (.cells #[.string f, .string md, .int .i64 (la : Nat), .string ma, .bool false, .slice none 0 0, .string md, .string t, .int .i64 (lb : Nat), .string mb, .bool false, .slice none 0 0] 25) := ⟨_, rfl⟩
              have K13 : Blk x4 x3.heap.size 25 #[.string f, .string md, .int .i64 (la : Nat), .string ma, .bool false, .slice none 0 0, .string md, .string t, .int .i64 (lb : Nat), .string mb, .bool false, .slice none 0 0] := by rw [hnx]; exact Blk.new _ _ _
              have BL : Below w4.heap.size w4 x4 := by rw [hnx]; exact BL.alloc BL.size _
              refine op_value (v := .slice (some ⟨x3.heap.size, 0, none⟩) 2 2) (w' := x4) rfl rfl (by rw [hnx]; go_simp) ⟨HSC.out _ (BL.mono hwl), ?_⟩
              clear hnx
              obtain ⟨z13, hz13⟩ : ∃ z, z = x3.heap.size := ⟨_, rfl⟩
              rw [← hz13] at K13 ⊢
              clear hz13
              refine held_two 14 16 (by kernel_rfl) ?_ ?_
              · have R14 := HR3.out.kept (grown_of_below BL) (.inr (by simp [Value.ownBlock]))
                refine op_wp rfl rfl (wp_append_own x4 (.tmp 86) (.tmp 99) 34 rfl (w.heap.size + 1) 25 i0 (.agg #[.string ⟨#[]⟩, .string ⟨#[]⟩, .int .i64 0, .string ⟨#[]⟩, .bool false, .slice none 0 0]) 6 88 Try.underlying34 hi0 hz0 hz1 hz2 rfl (by decide) (.slice (some ⟨w.heap.size + 1, 0, none⟩) 0 0) 0 [] (by go_simp) R14 ⟨z13, 0, none⟩ 2 2 [.string f, .string md, .int .i64 (la : Nat), .string ma, .bool false, .slice none 0 0, .string md, .string t, .int .i64 (lb : Nat), .string mb, .bool false, .slice none 0 0] (by go_simp) rfl (fun j u hu => by
                  have hj : (⟨z13, 0, none⟩ : Addr).add j = ⟨z13, j, none⟩ := by simp [Addr.add]; intro h; exact h.symm
                  rw [hj, K13.cell]
                  simpa using hu) (by simp [Value.oneCell']) (by unfold maxLen; omega) (by omega) (by have := BL.size; omega) ?_)
                intro v14 x5 O14 hg14 _
                have BW : Below (w.heap.size + 1) w4 x5 := (BL.mono hwl).grown hg14 (by have := BL.size; omega) (fun g e => by cases e; exact Nat.le_refl _)
                obtain ⟨a14, c14, rfl⟩ := nrow_any O14
                refine ⟨HSC.out _ BW, ?_⟩
                clear R14 hg14 K13 BL
                have hS := HSC.out x5 BW
                refine wpAnyH_take (i := 17) (v := .slice a14 2 c14) rfl (by kernel_rfl) (by kernel_rfl) (by kernel_rfl) (fun _ _ _ h => h) (.inl ⟨rfl, fun w' hS => by obtain ⟨s1, s2⟩ := hS; go_simp⟩) hS ?_
                refine wpAnyH_take (i := 18) (v := .slice (some ⟨z15, 0, none⟩) 0 0) rfl (by kernel_rfl) (by kernel_rfl) (by kernel_rfl) (fun _ _ _ h => h) (.inl ⟨rfl, fun w' hS => by obtain ⟨s1, s2⟩ := hS; go_simp⟩) hS ?_
                clear hS
                refine held_one 16 (by kernel_rfl) ?_
                obtain ⟨x6, hnx⟩ : ∃ y, y = x5.alloc (.cells #[] 9) := ⟨_, rfl⟩
                have BW : Below (w.heap.size + 1) w4 x6 := by rw [hnx]; exact BW.alloc (by have := BW.size; omega) _
                have O14 := Below.row (show Below x5.heap.size x5 x6 by rw [hnx]; exact (Below.refl _ _).alloc (Nat.le_refl _) _) O14
                refine op_value (v := .slice (some ⟨x5.heap.size, 0, none⟩) 0 0) (w' := x6) rfl rfl (by rw [hnx]; go_simp) ⟨HSC.out _ BW, ?_⟩
                clear hnx
                obtain ⟨z16, hz16⟩ : ∃ z, z = x5.heap.size := ⟨_, rfl⟩
                rw [← hz16]
                clear hz16
                have hS := HSC.out x6 BW
                refine wpAnyH_take (i := 19) (v := .slice (some ⟨z16, 0, none⟩) 0 0) rfl (by kernel_rfl) (by kernel_rfl) (by kernel_rfl) (fun _ _ _ h => h) (.inl ⟨rfl, fun w' hS => by obtain ⟨s1, s2⟩ := hS; go_simp⟩) hS ?_
                clear hS
                refine wpAnyH_done (by kernel_rfl) ?_ _
                have HFB := hid (HB3.out.trans (BW.mono (by omega)))
                have HFR := hid (HTW.out _ _ O14)
                clear BW O14
                go_simp
                go_wp2
                go_ret3
                exact ⟨_, _, _, _, [], [], rfl, HY.out, HFR.out, .inl ⟨rfl, _, _, rfl⟩, .inl ⟨rfl, _, _, rfl⟩, HFB.out⟩
              · obtain ⟨x5, hnx⟩ : ∃ y, y = x4.alloc (.cells #[] 9) := ⟨_, rfl⟩
                have K13 := K13.below (show Below x4.heap.size x4 x5 by rw [hnx]; exact (Below.refl _ _).alloc (Nat.le_refl _) _)
                have BL : Below w4.heap.size w4 x5 := by rw [hnx]; exact BL.alloc BL.size _
                refine op_value (v := .slice (some ⟨x4.heap.size, 0, none⟩) 0 0) (w' := x5) rfl rfl (by rw [hnx]; go_simp) ⟨HSC.out _ (BL.mono hwl), ?_⟩
                clear hnx
                obtain ⟨z16, hz16⟩ : ∃ z, z = x4.heap.size := ⟨_, rfl⟩
                rw [← hz16]
                clear hz16
                refine held_one 14 (by kernel_rfl) ?_
                have R14 := HR3.out.kept (grown_of_below BL) (.inr (by simp [Value.ownBlock]))
                refine op_wp rfl rfl (wp_append_own x5 (.tmp 86) (.tmp 99) 34 rfl (w.heap.size + 1) 25 i0 (.agg #[.string ⟨#[]⟩, .string ⟨#[]⟩, .int .i64 0, .string ⟨#[]⟩, .bool false, .slice none 0 0]) 6 88 Try.underlying34 hi0 hz0 hz1 hz2 rfl (by decide) (.slice (some ⟨w.heap.size + 1, 0, none⟩) 0 0) 0 [] (by go_simp) R14 ⟨z13, 0, none⟩ 2 2 [.string f, .string md, .int .i64 (la : Nat), .string ma, .bool false, .slice none 0 0, .string md, .string t, .int .i64 (lb : Nat), .string mb, .bool false, .slice none 0 0] (by go_simp) rfl (fun j u hu => by
                  have hj : (⟨z13, 0, none⟩ : Addr).add j = ⟨z13, j, none⟩ := by simp [Addr.add]; intro h; exact h.symm
                  rw [hj, K13.cell]
                  simpa using hu) (by simp [Value.oneCell']) (by unfold maxLen; omega) (by omega) (by have := BL.size; omega) ?_)
                intro v14 x6 O14 hg14 _
                have BW : Below (w.heap.size + 1) w4 x6 := (BL.mono hwl).grown hg14 (by have := BL.size; omega) (fun g e => by cases e; exact Nat.le_refl _)
                obtain ⟨a14, c14, rfl⟩ := nrow_any O14
                refine ⟨HSC.out _ BW, ?_⟩
                clear R14 hg14 K13 BL
                have hS := HSC.out x6 BW
                refine wpAnyH_take (i := 17) (v := .slice a14 2 c14) rfl (by kernel_rfl) (by kernel_rfl) (by kernel_rfl) (fun _ _ _ h => h) (.inl ⟨rfl, fun w' hS => by obtain ⟨s1, s2⟩ := hS; go_simp⟩) hS ?_
                refine wpAnyH_take (i := 18) (v := .slice (some ⟨z15, 0, none⟩) 0 0) rfl (by kernel_rfl) (by kernel_rfl) (by kernel_rfl) (fun _ _ _ h => h) (.inl ⟨rfl, fun w' hS => by obtain ⟨s1, s2⟩ := hS; go_simp⟩) hS ?_
                refine wpAnyH_take (i := 19) (v := .slice (some ⟨z16, 0, none⟩) 0 0) rfl (by kernel_rfl) (by kernel_rfl) (by kernel_rfl) (fun _ _ _ h => h) (.inl ⟨rfl, fun w' hS => by obtain ⟨s1, s2⟩ := hS; go_simp⟩) hS ?_
                clear hS
                refine wpAnyH_done (by kernel_rfl) ?_ _
                have HFB := hid (HB3.out.trans (BW.mono (by omega)))
                have HFR := hid (HTW.out _ _ O14)
                clear BW O14
                go_simp
                go_wp2
                go_ret3
                exact ⟨_, _, _, _, [], [], rfl, HY.out, HFR.out, .inl ⟨rfl, _, _, rfl⟩, .inl ⟨rfl, _, _, rfl⟩, HFB.out⟩
            · obtain ⟨x4, hnx⟩ : ∃ y, y = x3.alloc (.cells #[] 9) := ⟨_, rfl⟩
              have BL : Below w4.heap.size w4 x4 := by rw [hnx]; exact BL.alloc BL.size _
              refine op_value (v := .slice (some ⟨x3.heap.size, 0, none⟩) 0 0) (w' := x4) rfl rfl (by rw [hnx]; go_simp) ⟨HSC.out _ (BL.mono hwl), ?_⟩
              clear hnx
              obtain ⟨z16, hz16⟩ : ∃ z, z = x3.heap.size := ⟨_, rfl⟩
              rw [← hz16]
              clear hz16
              refine held_one 13 (by kernel_rfl) ?_
              obtain ⟨x5, hnx⟩ : ∃ y, y = x4.alloc (.cells #[.string f, .string md, .int .i64 (la : Nat), .string ma, .bool false, .slice none 0 0, .string md, .string t, .int .i64 (lb : Nat), .string mb, .bool false, .slice none 0 0] 25) := ⟨_, rfl⟩
              have K13 : Blk x5 x4.heap.size 25 #[.string f, .string md, .int .i64 (la : Nat), .string ma, .bool false, .slice none 0 0, .string md, .string t, .int .i64 (lb : Nat), .string mb, .bool false, .slice none 0 0] := by rw [hnx]; exact Blk.new _ _ _
              have BL : Below w4.heap.size w4 x5 := by rw [hnx]; exact BL.alloc BL.size _
              refine op_value (v := .slice (some ⟨x4.heap.size, 0, none⟩) 2 2) (w' := x5) rfl rfl (by rw [hnx]; go_simp) ⟨HSC.out _ (BL.mono hwl), ?_⟩
              clear hnx
              obtain ⟨z13, hz13⟩ : ∃ z, z = x4.heap.size := ⟨_, rfl⟩
              rw [← hz13] at K13 ⊢
              clear hz13
              refine held_one 14 (by kernel_rfl) ?_
              have R14 := HR3.out.kept (grown_of_below BL) (.inr (by simp [Value.ownBlock]))
              refine op_wp rfl rfl (wp_append_own x5 (.tmp 86) (.tmp 99) 34 rfl (w.heap.size + 1) 25 i0 (.agg #[.string ⟨#[]⟩, .string ⟨#[]⟩, .int .i64 0, .string ⟨#[]⟩, .bool false, .slice none 0 0]) 6 88 Try.underlying34 hi0 hz0 hz1 hz2 rfl (by decide) (.slice (some ⟨w.heap.size + 1, 0, none⟩) 0 0) 0 [] (by go_simp) R14 ⟨z13, 0, none⟩ 2 2 [.string f, .string md, .int .i64 (la : Nat), .string ma, .bool false, .slice none 0 0, .string md, .string t, .int .i64 (lb : Nat), .string mb, .bool false, .slice none 0 0] (by go_simp) rfl (fun j u hu => by
                have hj : (⟨z13, 0, none⟩ : Addr).add j = ⟨z13, j, none⟩ := by simp [Addr.add]; intro h; exact h.symm
                rw [hj, K13.cell]
                simpa using hu) (by simp [Value.oneCell']) (by unfold maxLen; omega) (by omega) (by have := BL.size; omega) ?_)
              intro v14 x6 O14 hg14 _
              have BW : Below (w.heap.size + 1) w4 x6 := (BL.mono hwl).grown hg14 (by have := BL.size; omega) (fun g e => by cases e; exact Nat.le_refl _)
              obtain ⟨a14, c14, rfl⟩ := nrow_any O14
              refine ⟨HSC.out _ BW, ?_⟩
              clear R14 hg14 K13 BL
              have hS := HSC.out x6 BW
              refine wpAnyH_take (i := 17) (v := .slice a14 2 c14) rfl (by kernel_rfl) (by kernel_rfl) (by kernel_rfl) (fun _ _ _ h => h) (.inl ⟨rfl, fun w' hS => by obtain ⟨s1, s2⟩ := hS; go_simp⟩) hS ?_
              refine wpAnyH_take (i := 18) (v := .slice (some ⟨z15, 0, none⟩) 0 0) rfl (by kernel_rfl) (by kernel_rfl) (by kernel_rfl) (fun _ _ _ h => h) (.inl ⟨rfl, fun w' hS => by obtain ⟨s1, s2⟩ := hS; go_simp⟩) hS ?_
              refine wpAnyH_take (i := 19) (v := .slice (some ⟨z16, 0, none⟩) 0 0) rfl (by kernel_rfl) (by kernel_rfl) (by kernel_rfl) (fun _ _ _ h => h) (.inl ⟨rfl, fun w' hS => by obtain ⟨s1, s2⟩ := hS; go_simp⟩) hS ?_
              clear hS
              refine wpAnyH_done (by kernel_rfl) ?_ _
              have HFB := hid (HB3.out.trans (BW.mono (by omega)))
              have HFR := hid (HTW.out _ _ O14)
              clear BW O14
              go_simp
              go_wp2
              go_ret3
              exact ⟨_, _, _, _, [], [], rfl, HY.out, HFR.out, .inl ⟨rfl, _, _, rfl⟩, .inl ⟨rfl, _, _, rfl⟩, HFB.out⟩
          · obtain ⟨x3, hnx⟩ : ∃ y, y = x2.alloc (.cells #[] 9) := ⟨_, rfl⟩
            have BL : Below w4.heap.size w4 x3 := by rw [hnx]; exact BL.alloc BL.size _
            refine op_value (v := .slice (some ⟨x2.heap.size, 0, none⟩) 0 0) (w' := x3) rfl rfl (by rw [hnx]; go_simp) ⟨HSC.out _ (BL.mono hwl), ?_⟩
            clear hnx
            obtain ⟨z16, hz16⟩ : ∃ z, z = x2.heap.size := ⟨_, rfl⟩
            rw [← hz16]
            clear hz16
            refine held_one 12 (by kernel_rfl) ?_
            refine op_calls (f := 6) (args := #[.slice av ts.length cv, .string md, .string t, .int .i64 n]) rfl rfl (by go_simp) (HTB.out _ (HV3.out.below BL)) ?_
            rintro e x4 ⟨rfl, hbx⟩
            have BL := BL.trans (hbx.mono BL.size)
            refine ⟨_, rfl, HSC.out _ (BL.mono hwl), ?_⟩
            clear hbx
            refine held_one 13 (by kernel_rfl) ?_
            obtain ⟨x5, hnx⟩ : ∃ y, y = x4.alloc (.cells #[.string f, .string md, .int .i64 (la : Nat), .string ma, .bool false, .slice none 0 0, .string md, .string t, .int .i64 (lb : Nat), .string mb, .bool false, .slice none 0 0] 25) := ⟨_, rfl⟩
            have K13 : Blk x5 x4.heap.size 25 #[.string f, .string md, .int .i64 (la : Nat), .string ma, .bool false, .slice none 0 0, .string md, .string t, .int .i64 (lb : Nat), .string mb, .bool false, .slice none 0 0] := by rw [hnx]; exact Blk.new _ _ _
            have BL : Below w4.heap.size w4 x5 := by rw [hnx]; exact BL.alloc BL.size _
            refine op_value (v := .slice (some ⟨x4.heap.size, 0, none⟩) 2 2) (w' := x5) rfl rfl (by rw [hnx]; go_simp) ⟨HSC.out _ (BL.mono hwl), ?_⟩
            clear hnx
            obtain ⟨z13, hz13⟩ : ∃ z, z = x4.heap.size := ⟨_, rfl⟩
            rw [← hz13] at K13 ⊢
            clear hz13
            refine held_one 14 (by kernel_rfl) ?_
            have R14 := HR3.out.kept (grown_of_below BL) (.inr (by simp [Value.ownBlock]))
            refine op_wp rfl rfl (wp_append_own x5 (.tmp 86) (.tmp 99) 34 rfl (w.heap.size + 1) 25 i0 (.agg #[.string ⟨#[]⟩, .string ⟨#[]⟩, .int .i64 0, .string ⟨#[]⟩, .bool false, .slice none 0 0]) 6 88 Try.underlying34 hi0 hz0 hz1 hz2 rfl (by decide) (.slice (some ⟨w.heap.size + 1, 0, none⟩) 0 0) 0 [] (by go_simp) R14 ⟨z13, 0, none⟩ 2 2 [.string f, .string md, .int .i64 (la : Nat), .string ma, .bool false, .slice none 0 0, .string md, .string t, .int .i64 (lb : Nat), .string mb, .bool false, .slice none 0 0] (by go_simp) rfl (fun j u hu => by
              have hj : (⟨z13, 0, none⟩ : Addr).add j = ⟨z13, j, none⟩ := by simp [Addr.add]; intro h; exact h.symm
              rw [hj, K13.cell]
              simpa using hu) (by simp [Value.oneCell']) (by unfold maxLen; omega) (by omega) (by have := BL.size; omega) ?_)
            intro v14 x6 O14 hg14 _
            have BW : Below (w.heap.size + 1) w4 x6 := (BL.mono hwl).grown hg14 (by have := BL.size; omega) (fun g e => by cases e; exact Nat.le_refl _)
            obtain ⟨a14, c14, rfl⟩ := nrow_any O14
            refine ⟨HSC.out _ BW, ?_⟩
            clear R14 hg14 K13 BL
            have hS := HSC.out x6 BW
            refine wpAnyH_take (i := 17) (v := .slice a14 2 c14) rfl (by kernel_rfl) (by kernel_rfl) (by kernel_rfl) (fun _ _ _ h => h) (.inl ⟨rfl, fun w' hS => by obtain ⟨s1, s2⟩ := hS; go_simp⟩) hS ?_
            refine wpAnyH_take (i := 18) (v := .slice (some ⟨z15, 0, none⟩) 0 0) rfl (by kernel_rfl) (by kernel_rfl) (by kernel_rfl) (fun _ _ _ h => h) (.inl ⟨rfl, fun w' hS => by obtain ⟨s1, s2⟩ := hS; go_simp⟩) hS ?_
            refine wpAnyH_take (i := 19) (v := .slice (some ⟨z16, 0, none⟩) 0 0) rfl (by kernel_rfl) (by kernel_rfl) (by kernel_rfl) (fun _ _ _ h => h) (.inl ⟨rfl, fun w' hS => by obtain ⟨s1, s2⟩ := hS; go_simp⟩) hS ?_
            clear hS
            refine wpAnyH_done (by kernel_rfl) ?_ _
            have HFB := hid (HB3.out.trans (BW.mono (by omega)))
            have HFR := hid (HTW.out _ _ O14)
            clear BW O14
            go_simp
            go_wp2
            go_ret3
            exact ⟨_, _, _, _, [], [], rfl, HY.out, HFR.out, .inl ⟨rfl, _, _, rfl⟩, .inl ⟨rfl, _, _, rfl⟩, HFB.out⟩
        · obtain ⟨x2, hnx⟩ : ∃ y, y = x1.alloc (.cells #[] 9) := ⟨_, rfl⟩
          have BL : Below w4.heap.size w4 x2 := by rw [hnx]; exact BL.alloc BL.size _
          refine op_value (v := .slice (some ⟨x1.heap.size, 0, none⟩) 0 0) (w' := x2) rfl rfl (by rw [hnx]; go_simp) ⟨HSC.out _ (BL.mono hwl), ?_⟩
          clear hnx
          obtain ⟨z16, hz16⟩ : ∃ z, z = x1.heap.size := ⟨_, rfl⟩
          rw [← hz16]
          clear hz16
          refine held_one 6 (by kernel_rfl) ?_
          refine op_calls (f := 6) (args := #[.slice av ts.length cv, .string f, .string md, .int .i64 n]) rfl rfl (by go_simp) (HTA.out _ (HV3.out.below BL)) ?_
          rintro e x3 ⟨rfl, hbx⟩
          have BL := BL.trans (hbx.mono BL.size)
          refine ⟨_, rfl, HSC.out _ (BL.mono hwl), ?_⟩
          clear hbx
          refine held_one 12 (by kernel_rfl) ?_
          refine op_calls (f := 6) (args := #[.slice av ts.length cv, .string md, .string t, .int .i64 n]) rfl rfl (by go_simp) (HTB.out _ (HV3.out.below BL)) ?_
          rintro e x4 ⟨rfl, hbx⟩
          have BL := BL.trans (hbx.mono BL.size)
          refine ⟨_, rfl, HSC.out _ (BL.mono hwl), ?_⟩
          clear hbx
          refine held_one 13 (by kernel_rfl) ?_
          obtain ⟨x5, hnx⟩ : ∃ y, y = x4.alloc (.cells #[.string f, .string md, .int .i64 (la : Nat), .string ma, .bool false, .slice none 0 0, .string md, .string t, .int .i64 (lb : Nat), .string mb, .bool false, .slice none 0 0] 25) := ⟨_, rfl⟩
          have K13 : Blk x5 x4.heap.size 25 #[.string f, .string md, .int .i64 (la : Nat), .string ma, .bool false, .slice none 0 0, .string md, .string t, .int .i64 (lb : Nat), .string mb, .bool false, .slice none 0 0] := by rw [hnx]; exact Blk.new _ _ _
          have BL : Below w4.heap.size w4 x5 := by rw [hnx]; exact BL.alloc BL.size _
          refine op_value (v := .slice (some ⟨x4.heap.size, 0, none⟩) 2 2) (w' := x5) rfl rfl (by rw [hnx]; go_simp) ⟨HSC.out _ (BL.mono hwl), ?_⟩
          clear hnx
          obtain ⟨z13, hz13⟩ : ∃ z, z = x4.heap.size := ⟨_, rfl⟩
          rw [← hz13] at K13 ⊢
          clear hz13
          refine held_one 14 (by kernel_rfl) ?_
          have R14 := HR3.out.kept (grown_of_below BL) (.inr (by simp [Value.ownBlock]))
          refine op_wp rfl rfl (wp_append_own x5 (.tmp 86) (.tmp 99) 34 rfl (w.heap.size + 1) 25 i0 (.agg #[.string ⟨#[]⟩, .string ⟨#[]⟩, .int .i64 0, .string ⟨#[]⟩, .bool false, .slice none 0 0]) 6 88 Try.underlying34 hi0 hz0 hz1 hz2 rfl (by decide) (.slice (some ⟨w.heap.size + 1, 0, none⟩) 0 0) 0 [] (by go_simp) R14 ⟨z13, 0, none⟩ 2 2 [.string f, .string md, .int .i64 (la : Nat), .string ma, .bool false, .slice none 0 0, .string md, .string t, .int .i64 (lb : Nat), .string mb, .bool false, .slice none 0 0] (by go_simp) rfl (fun j u hu => by
            have hj : (⟨z13, 0, none⟩ : Addr).add j = ⟨z13, j, none⟩ := by simp [Addr.add]; intro h; exact h.symm
            rw [hj, K13.cell]
            simpa using hu) (by simp [Value.oneCell']) (by unfold maxLen; omega) (by omega) (by have := BL.size; omega) ?_)
          intro v14 x6 O14 hg14 _
          have BW : Below (w.heap.size + 1) w4 x6 := (BL.mono hwl).grown hg14 (by have := BL.size; omega) (fun g e => by cases e; exact Nat.le_refl _)
          obtain ⟨a14, c14, rfl⟩ := nrow_any O14
          refine ⟨HSC.out _ BW, ?_⟩
          clear R14 hg14 K13 BL
          have hS := HSC.out x6 BW
          refine wpAnyH_take (i := 17) (v := .slice a14 2 c14) rfl (by kernel_rfl) (by kernel_rfl) (by kernel_rfl) (fun _ _ _ h => h) (.inl ⟨rfl, fun w' hS => by obtain ⟨s1, s2⟩ := hS; go_simp⟩) hS ?_
          refine wpAnyH_take (i := 18) (v := .slice (some ⟨z15, 0, none⟩) 0 0) rfl (by kernel_rfl) (by kernel_rfl) (by kernel_rfl) (fun _ _ _ h => h) (.inl ⟨rfl, fun w' hS => by obtain ⟨s1, s2⟩ := hS; go_simp⟩) hS ?_
          refine wpAnyH_take (i := 19) (v := .slice (some ⟨z16, 0, none⟩) 0 0) rfl (by kernel_rfl) (by kernel_rfl) (by kernel_rfl) (fun _ _ _ h => h) (.inl ⟨rfl, fun w' hS => by obtain ⟨s1, s2⟩ := hS; go_simp⟩) hS ?_
          clear hS
          refine wpAnyH_done (by kernel_rfl) ?_ _
          have HFB := hid (HB3.out.trans (BW.mono (by omega)))
          have HFR := hid (HTW.out _ _ O14)
          clear BW O14
          go_simp
          go_wp2
          go_ret3
          exact ⟨_, _, _, _, [], [], rfl, HY.out, HFR.out, .inl ⟨rfl, _, _, rfl⟩, .inl ⟨rfl, _, _, rfl⟩, HFB.out⟩
      · obtain ⟨x1, hnx⟩ : ∃ y, y = x0.alloc (.cells #[] 9) := ⟨_, rfl⟩
        have BL : Below w4.heap.size w4 x1 := by rw [hnx]; exact BL.alloc BL.size _
        refine op_value (v := .slice (some ⟨x0.heap.size, 0, none⟩) 0 0) (w' := x1) rfl rfl (by rw [hnx]; go_simp) ⟨HSC.out _ (BL.mono hwl), ?_⟩
        clear hnx
        obtain ⟨z16, hz16⟩ : ∃ z, z = x0.heap.size := ⟨_, rfl⟩
        rw [← hz16]
        clear hz16
        refine held_two 6 15 (by kernel_rfl) ?_ ?_
        · refine op_calls (f := 6) (args := #[.slice av ts.length cv, .string f, .string md, .int .i64 n]) rfl rfl (by go_simp) (HTA.out _ (HV3.out.below BL)) ?_
          rintro e x2 ⟨rfl, hbx⟩
          have BL := BL.trans (hbx.mono BL.size)
          refine ⟨_, rfl, HSC.out _ (BL.mono hwl), ?_⟩
          clear hbx
          refine held_two 12 15 (by kernel_rfl) ?_ ?_
          · refine op_calls (f := 6) (args := #[.slice av ts.length cv, .string md, .string t, .int .i64 n]) rfl rfl (by go_simp) (HTB.out _ (HV3.out.below BL)) ?_
            rintro e x3 ⟨rfl, hbx⟩
            have BL := BL.trans (hbx.mono BL.size)
            refine ⟨_, rfl, HSC.out _ (BL.mono hwl), ?_⟩
            clear hbx
            refine held_two 13 15 (by kernel_rfl) ?_ ?_
            · obtain ⟨x4, hnx⟩ : ∃ y, y = x3.alloc (.cells #[.string f, .string md, .int .i64 (la : Nat), .string ma, .bool false, .slice none 0 0, .string md, .string t, .int .i64 (lb : Nat), .string mb, .bool false, .slice none 0 0] 25) := ⟨_, rfl⟩
              have K13 : Blk x4 x3.heap.size 25 #[.string f, .string md, .int .i64 (la : Nat), .string ma, .bool false, .slice none 0 0, .string md, .string t, .int .i64 (lb : Nat), .string mb, .bool false, .slice none 0 0] := by rw [hnx]; exact Blk.new _ _ _
              have BL : Below w4.heap.size w4 x4 := by rw [hnx]; exact BL.alloc BL.size _
              refine op_value (v := .slice (some ⟨x3.heap.size, 0, none⟩) 2 2) (w' := x4) rfl rfl (by rw [hnx]; go_simp) ⟨HSC.out _ (BL.mono hwl), ?_⟩
              clear hnx
              obtain ⟨z13, hz13⟩ : ∃ z, z = x3.heap.size := ⟨_, rfl⟩
              rw [← hz13] at K13 ⊢
              clear hz13
              refine held_two 14 15 (by kernel_rfl) ?_ ?_
              · have R14 := HR3.out.kept (grown_of_below BL) (.inr (by simp [Value.ownBlock]))
                refine op_wp rfl rfl (wp_append_own x4 (.tmp 86) (.tmp 99) 34 rfl (w.heap.size + 1) 25 i0 (.agg #[.string ⟨#[]⟩, .string ⟨#[]⟩, .int .i64 0, .string ⟨#[]⟩, .bool false, .slice none 0 0]) 6 88 Try.underlying34 hi0 hz0 hz1 hz2 rfl (by decide) (.slice (some ⟨w.heap.size + 1, 0, none⟩) 0 0) 0 [] (by go_simp) R14 ⟨z13, 0, none⟩ 2 2 [.string f, .string md, .int .i64 (la : Nat), .string ma, .bool false, .slice none 0 0, .string md, .string t, .int .i64 (lb : Nat), .string mb, .bool false, .slice none 0 0] (by go_simp) rfl (fun j u hu => by
                  have hj : (⟨z13, 0, none⟩ : Addr).add j = ⟨z13, j, none⟩ := by simp [Addr.add]; intro h; exact h.symm
                  rw [hj, K13.cell]
                  simpa using hu) (by simp [Value.oneCell']) (by unfold maxLen; omega) (by omega) (by have := BL.size; omega) ?_)
                intro v14 x5 O14 hg14 _
                have BW : Below (w.heap.size + 1) w4 x5 := (BL.mono hwl).grown hg14 (by have := BL.size; omega) (fun g e => by cases e; exact Nat.le_refl _)
                obtain ⟨a14, c14, rfl⟩ := nrow_any O14
                refine ⟨HSC.out _ BW, ?_⟩
                clear R14 hg14 K13 BL
                have hS := HSC.out x5 BW
                refine wpAnyH_take (i := 17) (v := .slice a14 2 c14) rfl (by kernel_rfl) (by kernel_rfl) (by kernel_rfl) (fun _ _ _ h => h) (.inl ⟨rfl, fun w' hS => by obtain ⟨s1, s2⟩ := hS; go_simp⟩) hS ?_
                clear hS
                refine held_one 15 (by kernel_rfl) ?_
                obtain ⟨x6, hnx⟩ : ∃ y, y = x5.alloc (.cells #[] 9) := ⟨_, rfl⟩
                have BW : Below (w.heap.size + 1) w4 x6 := by rw [hnx]; exact BW.alloc (by have := BW.size; omega) _
                have O14 := Below.row (show Below x5.heap.size x5 x6 by rw [hnx]; exact (Below.refl _ _).alloc (Nat.le_refl _) _) O14
                refine op_value (v := .slice (some ⟨x5.heap.size, 0, none⟩) 0 0) (w' := x6) rfl rfl (by rw [hnx]; go_simp) ⟨HSC.out _ BW, ?_⟩
                clear hnx
                obtain ⟨z15, hz15⟩ : ∃ z, z = x5.heap.size := ⟨_, rfl⟩
                rw [← hz15]
                clear hz15
                have hS := HSC.out x6 BW
                refine wpAnyH_take (i := 18) (v := .slice (some ⟨z15, 0, none⟩) 0 0) rfl (by kernel_rfl) (by kernel_rfl) (by kernel_rfl) (fun _ _ _ h => h) (.inl ⟨rfl, fun w' hS => by obtain ⟨s1, s2⟩ := hS; go_simp⟩) hS ?_
                refine wpAnyH_take (i := 19) (v := .slice (some ⟨z16, 0, none⟩) 0 0) rfl (by kernel_rfl) (by kernel_rfl) (by kernel_rfl) (fun _ _ _ h => h) (.inl ⟨rfl, fun w' hS => by obtain ⟨s1, s2⟩ := hS; go_simp⟩) hS ?_
                clear hS
                refine wpAnyH_done (by kernel_rfl) ?_ _
                have HFB := hid (HB3.out.trans (BW.mono (by omega)))
                have HFR := hid (HTW.out _ _ O14)
                clear BW O14
                go_simp
                go_wp2
                go_ret3
                exact ⟨_, _, _, _, [], [], rfl, HY.out, HFR.out, .inl ⟨rfl, _, _, rfl⟩, .inl ⟨rfl, _, _, rfl⟩, HFB.out⟩
              · obtain ⟨x5, hnx⟩ : ∃ y, y = x4.alloc (.cells #[] 9) := ⟨_, rfl⟩
                have K13 := K13.below (show Below x4.heap.size x4 x5 by rw [hnx]; exact (Below.refl _ _).alloc (Nat.le_refl _) _)
                have BL : Below w4.heap.size w4 x5 := by rw [hnx]; exact BL.alloc BL.size _
                refine op_value (v := .slice (some ⟨x4.heap.size, 0, none⟩) 0 0) (w' := x5) rfl rfl (by rw [hnx]; go_simp) ⟨HSC.out _ (BL.mono hwl), ?_⟩
                clear hnx
                obtain ⟨z15, hz15⟩ : ∃ z, z = x4.heap.size := ⟨_, rfl⟩
                rw [← hz15]
                clear hz15
                refine held_one 14 (by kernel_rfl) ?_
                have R14 := HR3.out.kept (grown_of_below BL) (.inr (by simp [Value.ownBlock]))
                refine op_wp rfl rfl (wp_append_own x5 (.tmp 86) (.tmp 99) 34 rfl (w.heap.size + 1) 25 i0 (.agg #[.string ⟨#[]⟩, .string ⟨#[]⟩, .int .i64 0, .string ⟨#[]⟩, .bool false, .slice none 0 0]) 6 88 Try.underlying34 hi0 hz0 hz1 hz2 rfl (by decide) (.slice (some ⟨w.heap.size + 1, 0, none⟩) 0 0) 0 [] (by go_simp) R14 ⟨z13, 0, none⟩ 2 2 [.string f, .string md, .int .i64 (la : Nat), .string ma, .bool false, .slice none 0 0, .string md, .string t, .int .i64 (lb : Nat), .string mb, .bool false, .slice none 0 0] (by go_simp) rfl (fun j u hu => by
                  have hj : (⟨z13, 0, none⟩ : Addr).add j = ⟨z13, j, none⟩ := by simp [Addr.add]; intro h; exact h.symm
                  rw [hj, K13.cell]
                  simpa using hu) (by simp [Value.oneCell']) (by unfold maxLen; omega) (by omega) (by have := BL.size; omega) ?_)
                intro v14 x6 O14 hg14 _
                have BW : Below (w.heap.size + 1) w4 x6 := (BL.mono hwl).grown hg14 (by have := BL.size; omega) (fun g e => by cases e; exact Nat.le_refl _)
                obtain ⟨a14, c14, rfl⟩ := nrow_any O14
                refine ⟨HSC.out _ BW, ?_⟩
                clear R14 hg14 K13 BL
                have hS := HSC.out x6 BW
                refine wpAnyH_take (i := 17) (v := .slice a14 2 c14) rfl (by kernel_rfl) (by kernel_rfl) (by kernel_rfl) (fun _ _ _ h => h) (.inl ⟨rfl, fun w' hS => by obtain ⟨s1, s2⟩ := hS; go_simp⟩) hS ?_
                refine wpAnyH_take (i := 18) (v := .slice (some ⟨z15, 0, none⟩) 0 0) rfl (by kernel_rfl) (by kernel_rfl) (by kernel_rfl) (fun _ _ _ h => h) (.inl ⟨rfl, fun w' hS => by obtain ⟨s1, s2⟩ := hS; go_simp⟩) hS ?_
                refine wpAnyH_take (i := 19) (v := .slice (some ⟨z16, 0, none⟩) 0 0) rfl (by kernel_rfl) (by kernel_rfl) (by kernel_rfl) (fun _ _ _ h => h) (.inl ⟨rfl, fun w' hS => by obtain ⟨s1, s2⟩ := hS; go_simp⟩) hS ?_
                clear hS
                refine wpAnyH_done (by kernel_rfl) ?_ _
                have HFB := hid (HB3.out.trans (BW.mono (by omega)))
                have HFR := hid (HTW.out _ _ O14)
                clear BW O14
                go_simp
                go_wp2
                go_ret3
                exact ⟨_, _, _, _, [], [], rfl, HY.out, HFR.out, .inl ⟨rfl, _, _, rfl⟩, .inl ⟨rfl, _, _, rfl⟩, HFB.out⟩
            · obtain ⟨x4, hnx⟩ : ∃ y, y = x3.alloc (.cells #[] 9) := ⟨_, rfl⟩
              have BL : Below w4.heap.size w4 x4 := by rw [hnx]; exact BL.alloc BL.size _
              refine op_value (v := .slice (some ⟨x3.heap.size, 0, none⟩) 0 0) (w' := x4) rfl rfl (by rw [hnx]; go_simp) ⟨HSC.out _ (BL.mono hwl), ?_⟩
              clear hnx
              obtain ⟨z15, hz15⟩ : ∃ z, z = x3.heap.size := ⟨_, rfl⟩
              rw [← hz15]
              clear hz15
              refine held_one 13 (by kernel_rfl) ?_
              obtain ⟨x5, hnx⟩ : ∃ y, y = x4.alloc (.cells #[.string f, .string md, .int .i64 (la : Nat), .string ma, .bool false, .slice none 0 0, .string md, .string t, .int .i64 (lb : Nat), .string mb, .bool false, .slice none 0 0] 25) := ⟨_, rfl⟩
              have K13 : Blk x5 x4.heap.size 25 #[.string f, .string md, .int .i64 (la : Nat), .string ma, .bool false, .slice none 0 0, .string md, .string t, .int .i64 (lb : Nat), .string mb, .bool false, .slice none 0 0] := by rw [hnx]; exact Blk.new _ _ _
              have BL : Below w4.heap.size w4 x5 := by rw [hnx]; exact BL.alloc BL.size _
              refine op_value (v := .slice (some ⟨x4.heap.size, 0, none⟩) 2 2) (w' := x5) rfl rfl (by rw [hnx]; go_simp) ⟨HSC.out _ (BL.mono hwl), ?_⟩
              clear hnx
              obtain ⟨z13, hz13⟩ : ∃ z, z = x4.heap.size := ⟨_, rfl⟩
              rw [← hz13] at K13 ⊢
              clear hz13
              refine held_one 14 (by kernel_rfl) ?_
              have R14 := HR3.out.kept (grown_of_below BL) (.inr (by simp [Value.ownBlock]))
              refine op_wp rfl rfl (wp_append_own x5 (.tmp 86) (.tmp 99) 34 rfl (w.heap.size + 1) 25 i0 (.agg #[.string ⟨#[]⟩, .string ⟨#[]⟩, .int .i64 0, .string ⟨#[]⟩, .bool false, .slice none 0 0]) 6 88 Try.underlying34 hi0 hz0 hz1 hz2 rfl (by decide) (.slice (some ⟨w.heap.size + 1, 0, none⟩) 0 0) 0 [] (by go_simp) R14 ⟨z13, 0, none⟩ 2 2 [.string f, .string md, .int .i64 (la : Nat), .string ma, .bool false, .slice none 0 0, .string md, .string t, .int .i64 (lb : Nat), .string mb, .bool false, .slice none 0 0] (by go_simp) rfl (fun j u hu => by
                have hj : (⟨z13, 0, none⟩ : Addr).add j = ⟨z13, j, none⟩ := by simp [Addr.add]; intro h; exact h.symm
                rw [hj, K13.cell]
                simpa using hu) (by simp [Value.oneCell']) (by unfold maxLen; omega) (by omega) (by have := BL.size; omega) ?_)
              intro v14 x6 O14 hg14 _
              have BW : Below (w.heap.size + 1) w4 x6 := (BL.mono hwl).grown hg14 (by have := BL.size; omega) (fun g e => by cases e; exact Nat.le_refl _)
              obtain ⟨a14, c14, rfl⟩ := nrow_any O14
              refine ⟨HSC.out _ BW, ?_⟩
              clear R14 hg14 K13 BL
              have hS := HSC.out x6 BW
              refine wpAnyH_take (i := 17) (v := .slice a14 2 c14) rfl (by kernel_rfl) (by kernel_rfl) (by kernel_rfl) (fun _ _ _ h => h) (.inl ⟨rfl, fun w' hS => by obtain ⟨s1, s2⟩ := hS; go_simp⟩) hS ?_
              refine wpAnyH_take (i := 18) (v := .slice (some ⟨z15, 0, none⟩) 0 0) rfl (by kernel_rfl) (by kernel_rfl) (by kernel_rfl) (fun _ _ _ h => h) (.inl ⟨rfl, fun w' hS => by obtain ⟨s1, s2⟩ := hS; go_simp⟩) hS ?_
              refine wpAnyH_take (i := 19) (v := .slice (some ⟨z16, 0, none⟩) 0 0) rfl (by kernel_rfl) (by kernel_rfl) (by kernel_rfl) (fun _ _ _ h => h) (.inl ⟨rfl, fun w' hS => by obtain ⟨s1, s2⟩ := hS; go_simp⟩) hS ?_
              clear hS
              refine wpAnyH_done (by kernel_rfl) ?_ _
              have HFB := hid (HB3.out.trans (BW.mono (by omega)))
              have HFR := hid (HTW.out _ _ O14)
              clear BW O14
              go_simp
              go_wp2
              go_ret3
              exact ⟨_, _, _, _, [], [], rfl, HY.out, HFR.out, .inl ⟨rfl, _, _, rfl⟩, .inl ⟨rfl, _, _, rfl⟩, HFB.out⟩
          · obtain ⟨x3, hnx⟩ : ∃ y, y = x2.alloc (.cells #[] 9) := ⟨_, rfl⟩
            have BL : Below w4.heap.size w4 x3 := by rw [hnx]; exact BL.alloc BL.size _
            refine op_value (v := .slice (some ⟨x2.heap.size, 0, none⟩) 0 0) (w' := x3) rfl rfl (by rw [hnx]; go_simp) ⟨HSC.out _ (BL.mono hwl), ?_⟩
            clear hnx
            obtain ⟨z15, hz15⟩ : ∃ z, z = x2.heap.size := ⟨_, rfl⟩
            rw [← hz15]
            clear hz15
            refine held_one 12 (by kernel_rfl) ?_
            refine op_calls (f := 6) (args := #[.slice av ts.length cv, .string md, .string t, .int .i64 n]) rfl rfl (by go_simp) (HTB.out _ (HV3.out.below BL)) ?_
            rintro e x4 ⟨rfl, hbx⟩
            have BL := BL.trans (hbx.mono BL.size)
            refine ⟨_, rfl, HSC.out _ (BL.mono hwl), ?_⟩
            clear hbx
            refine held_one 13 (by kernel_rfl) ?_
            obtain ⟨x5, hnx⟩ : ∃ y, y = x4.alloc (.cells #[.string f, .string md, .int .i64 (la : Nat), .string ma, .bool false, .slice none 0 0, .string md, .string t, .int .i64 (lb : Nat), .string mb, .bool false, .slice none 0 0] 25) := ⟨_, rfl⟩
            have K13 : Blk x5 x4.heap.size 25 #[.string f, .string md, .int .i64 (la : Nat), .string ma, .bool false, .slice none 0 0, .string md, .string t, .int .i64 (lb : Nat), .string mb, .bool false, .slice none 0 0] := by rw [hnx]; exact Blk.new _ _ _
            have BL : Below w4.heap.size w4 x5 := by rw [hnx]; exact BL.alloc BL.size _
            refine op_value (v := .slice (some ⟨x4.heap.size, 0, none⟩) 2 2) (w' := x5) rfl rfl (by rw [hnx]; go_simp) ⟨HSC.out _ (BL.mono hwl), ?_⟩
            clear hnx
            obtain ⟨z13, hz13⟩ : ∃ z, z = x4.heap.size := ⟨_, rfl⟩
            rw [← hz13] at K13 ⊢
            clear hz13
            refine held_one 14 (by kernel_rfl) ?_
            have R14 := HR3.out.kept (grown_of_below BL) (.inr (by simp [Value.ownBlock]))
            refine op_wp rfl rfl (wp_append_own x5 (.tmp 86) (.tmp 99) 34 rfl (w.heap.size + 1) 25 i0 (.agg #[.string ⟨#[]⟩, .string ⟨#[]⟩, .int .i64 0, .string ⟨#[]⟩, .bool false, .slice none 0 0]) 6 88 Try.underlying34 hi0 hz0 hz1 hz2 rfl (by decide) (.slice (some ⟨w.heap.size + 1, 0, none⟩) 0 0) 0 [] (by go_simp) R14 ⟨z13, 0, none⟩ 2 2 [.string f, .string md, .int .i64 (la : Nat), .string ma, .bool false, .slice none 0 0, .string md, .string t, .int .i64 (lb : Nat), .string mb, .bool false, .slice none 0 0] (by go_simp) rfl (fun j u hu => by
              have hj : (⟨z13, 0, none⟩ : Addr).add j = ⟨z13, j, none⟩ := by simp [Addr.add]; intro h; exact h.symm
              rw [hj, K13.cell]
              simpa using hu) (by simp [Value.oneCell']) (by unfold maxLen; omega) (by omega) (by have := BL.size; omega) ?_)
            intro v14 x6 O14 hg14 _
            have BW : Below (w.heap.size + 1) w4 x6 := (BL.mono hwl).grown hg14 (by have := BL.size; omega) (fun g e => by cases e; exact Nat.le_refl _)
            obtain ⟨a14, c14, rfl⟩ := nrow_any O14
            refine ⟨HSC.out _ BW, ?_⟩
            clear R14 hg14 K13 BL
            have hS := HSC.out x6 BW
            refine wpAnyH_take (i := 17) (v := .slice a14 2 c14) rfl (by kernel_rfl) (by kernel_rfl) (by kernel_rfl) (fun _ _ _ h => h) (.inl ⟨rfl, fun w' hS => by obtain ⟨s1, s2⟩ := hS; go_simp⟩) hS ?_
            refine wpAnyH_take (i := 18) (v := .slice (some ⟨z15, 0, none⟩) 0 0) rfl (by kernel_rfl) (by kernel_rfl) (by kernel_rfl) (fun _ _ _ h => h) (.inl ⟨rfl, fun w' hS => by obtain ⟨s1, s2⟩ := hS; go_simp⟩) hS ?_
            refine wpAnyH_take (i := 19) (v := .slice (some ⟨z16, 0, none⟩) 0 0) rfl (by kernel_rfl) (by kernel_rfl) (by kernel_rfl) (fun _ _ _ h => h) (.inl ⟨rfl, fun w' hS => by obtain ⟨s1, s2⟩ := hS; go_simp⟩) hS ?_
            clear hS
            refine wpAnyH_done (by kernel_rfl) ?_ _
            have HFB := hid (HB3.out.trans (BW.mono (by omega)))
            have HFR := hid (HTW.out _ _ O14)
            clear BW O14
            go_simp
            go_wp2
            go_ret3
            exact ⟨_, _, _, _, [], [], rfl, HY.out, HFR.out, .inl ⟨rfl, _, _, rfl⟩, .inl ⟨rfl, _, _, rfl⟩, HFB.out⟩
        · obtain ⟨x2, hnx⟩ : ∃ y, y = x1.alloc (.cells #[] 9) := ⟨_, rfl⟩
          have BL : Below w4.heap.size w4 x2 := by rw [hnx]; exact BL.alloc BL.size _
          refine op_value (v := .slice (some ⟨x1.heap.size, 0, none⟩) 0 0) (w' := x2) rfl rfl (by rw [hnx]; go_simp) ⟨HSC.out _ (BL.mono hwl), ?_⟩
          clear hnx
          obtain ⟨z15, hz15⟩ : ∃ z, z = x1.heap.size := ⟨_, rfl⟩
          rw [← hz15]
          clear hz15
          refine held_one 6 (by kernel_rfl) ?_
          refine op_calls (f := 6) (args := #[.slice av ts.length cv, .string f, .string md, .int .i64 n]) rfl rfl (by go_simp) (HTA.out _ (HV3.out.below BL)) ?_
          rintro e x3 ⟨rfl, hbx⟩
          have BL := BL.trans (hbx.mono BL.size)
          refine ⟨_, rfl, HSC.out _ (BL.mono hwl), ?_⟩
          clear hbx
          refine held_one 12 (by kernel_rfl) ?_
          refine op_calls (f := 6) (args := #[.slice av ts.length cv, .string md, .string t, .int .i64 n]) rfl rfl (by go_simp) (HTB.out _ (HV3.out.below BL)) ?_
          rintro e x4 ⟨rfl, hbx⟩
          have BL := BL.trans (hbx.mono BL.size)
          refine ⟨_, rfl, HSC.out _ (BL.mono hwl), ?_⟩
          clear hbx
          refine held_one 13 (by kernel_rfl) ?_
          obtain ⟨x5, hnx⟩ : ∃ y, y = x4.alloc (.cells #[.string f, .string md, .int .i64 (la : Nat), .string ma, .bool false, .slice none 0 0, .string md, .string t, .int .i64 (lb : Nat), .string mb, .bool false, .slice none 0 0] 25) := ⟨_, rfl⟩
          have K13 : Blk x5 x4.heap.size 25 #[.string f, .string md, .int .i64 (la : Nat), .string ma, .bool false, .slice none 0 0, .string md, .string t, .int .i64 (lb : Nat), .string mb, .bool false, .slice none 0 0] := by rw [hnx]; exact Blk.new _ _ _
          have BL : Below w4.heap.size w4 x5 := by rw [hnx]; exact BL.alloc BL.size _
          refine op_value (v := .slice (some ⟨x4.heap.size, 0, none⟩) 2 2) (w' := x5) rfl rfl (by rw [hnx]; go_simp) ⟨HSC.out _ (BL.mono hwl), ?_⟩
          clear hnx
          obtain ⟨z13, hz13⟩ : ∃ z, z = x4.heap.size := ⟨_, rfl⟩
          rw [← hz13] at K13 ⊢
          clear hz13
          refine held_one 14 (by kernel_rfl) ?_
          have R14 := HR3.out.kept (grown_of_below BL) (.inr (by simp [Value.ownBlock]))
          refine op_wp rfl rfl (wp_append_own x5 (.tmp 86) (.tmp 99) 34 rfl (w.heap.size + 1) 25 i0 (.agg #[.string ⟨#[]⟩, .string ⟨#[]⟩, .int .i64 0, .string ⟨#[]⟩, .bool false, .slice none 0 0]) 6 88 Try.underlying34 hi0 hz0 hz1 hz2 rfl (by decide) (.slice (some ⟨w.heap.size + 1, 0, none⟩) 0 0) 0 [] (by go_simp) R14 ⟨z13, 0, none⟩ 2 2 [.string f, .string md, .int .i64 (la : Nat), .string ma, .bool false, .slice none 0 0, .string md, .string t, .int .i64 (lb : Nat), .string mb, .bool false, .slice none 0 0] (by go_simp) rfl (fun j u hu => by
            have hj : (⟨z13, 0, none⟩ : Addr).add j = ⟨z13, j, none⟩ := by simp [Addr.add]; intro h; exact h.symm
            rw [hj, K13.cell]
            simpa using hu) (by simp [Value.oneCell']) (by unfold maxLen; omega) (by omega) (by have := BL.size; omega) ?_)
          intro v14 x6 O14 hg14 _
          have BW : Below (w.heap.size + 1) w4 x6 := (BL.mono hwl).grown hg14 (by have := BL.size; omega) (fun g e => by cases e; exact Nat.le_refl _)
          obtain ⟨a14, c14, rfl⟩ := nrow_any O14
          refine ⟨HSC.out _ BW, ?_⟩
          clear R14 hg14 K13 BL
          have hS := HSC.out x6 BW
          refine wpAnyH_take (i := 17) (v := .slice a14 2 c14) rfl (by kernel_rfl) (by kernel_rfl) (by kernel_rfl) (fun _ _ _ h => h) (.inl ⟨rfl, fun w' hS => by obtain ⟨s1, s2⟩ := hS; go_simp⟩) hS ?_
          refine wpAnyH_take (i := 18) (v := .slice (some ⟨z15, 0, none⟩) 0 0) rfl (by kernel_rfl) (by kernel_rfl) (by kernel_rfl) (fun _ _ _ h => h) (.inl ⟨rfl, fun w' hS => by obtain ⟨s1, s2⟩ := hS; go_simp⟩) hS ?_
          refine wpAnyH_take (i := 19) (v := .slice (some ⟨z16, 0, none⟩) 0 0) rfl (by kernel_rfl) (by kernel_rfl) (by kernel_rfl) (fun _ _ _ h => h) (.inl ⟨rfl, fun w' hS => by obtain ⟨s1, s2⟩ := hS; go_simp⟩) hS ?_
          clear hS
          refine wpAnyH_done (by kernel_rfl) ?_ _
          have HFB := hid (HB3.out.trans (BW.mono (by omega)))
          have HFR := hid (HTW.out _ _ O14)
          clear BW O14
          go_simp
          go_wp2
          go_ret3
          exact ⟨_, _, _, _, [], [], rfl, HY.out, HFR.out, .inl ⟨rfl, _, _, rfl⟩, .inl ⟨rfl, _, _, rfl⟩, HFB.out⟩
end Go.Proofs.Ytnpfnafalkejnaa
