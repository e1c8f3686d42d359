/- spec.l6Ok. -/
import Derived.Test.YtnpfnafalkejnaaNoteOk
namespace Go.Proofs.Ytnpfnafalkejnaa
open Go.RowKit
set_option maxRecDepth 100000 in
set_option maxHeartbeats 4000000 in
theorem l6Ok_any (v : Value) (ts : List ByteArray) (f t m : ByteArray) (c : Int) (h : Bool) (vs : Value) (ss : List ByteArray) (n : Int) (w : World) (hv : Reads w v ts) (hl : ts.length ≤ 1048576) (hsz : ∀ i, (tv ts i).size ≤ 1048576) (hs : Reads w vs ss) (hls : ss.length ≤ 1048576) (hss : ∀ i, (tv ss i).size ≤ 1048576) :
    Calls Try.prog 29 #[v, .agg #[.string f, .string t, .int .i64 c, .string m, .bool h, vs], .int .i64 n] w fun e w' => BRes (IsSet n ts ∧ OkNote n ⟨f, t, c, m, h, ss⟩) w e w' := by
  have hA := (Below.refl w.heap.size w).alloc (Nat.le_refl _) (.cells #[.string f, .string t, .int .i64 c, .string m, .bool h, vs] 25)
  have HL := hid (l6Set_any v ts n _ (hv.below hA) (by unfold maxLen; omega) (fun i => by have := hsz i; unfold maxLen; omega))
  have HLS := hid fun W k => l6Set_any vs ss n W k (by unfold maxLen; omega) (fun i => by have := hss i; unfold maxLen; omega)
  have HTH := hid fun W k => l6There_any vs ss f t W k hls
  have HS := hid (hs.below hA)
  have HN := hid (Blk.new w 25 #[.string f, .string t, .int .i64 c, .string m, .bool h, vs])
  have HA := hid hA
  obtain ⟨av, cv, rfl, _⟩ := hv.form
  obtain ⟨a, ca, rfl, _⟩ := hs.form
  clear hA hsz hss hv hs
  go_enter Try.func29, Try.ntmps29
  go_upto_region 1 with fail
  go_cut [27] from 7 to 62 (fun s27 wx => ∃ b, s27 = .bool b ∧ (b = false ↔ IsSet n ts ∧ (t.toList = [] ∨ tlt f t = true) ∧ 0 ≤ c) ∧ Below (w.heap.size + 1) (w.alloc (.cells #[.string f, .string t, .int .i64 c, .string m, .bool h, .slice a ss.length ca] 25)) wx)
  case first =>
    go_wp2_with fail
    refine HL.out.mono ?_
    rintro e w1 ⟨b, rfl, hb, hb1⟩
    have N1 := HN.out.below hb1
    rw [World.size_alloc] at hb1
    have HB1 := hid hb1
    cases b with
    | false =>
      have HF : Hid (¬ IsSet n ts) := fun k => by have := hb.2 k; cases this
      clear hb hb1 N1
      go_wp2_with fail
      go_meet
      exact ⟨true, rfl, ⟨fun k => (by cases k), fun k => absurd k.1 HF.out⟩, HB1.out⟩
    | true =>
      have HSET := hid (hb.1 rfl)
      have c0 : w1.cell? ⟨w.heap.size, 0, none⟩ = some (.string f) := N1.cell 0
      have c1 : w1.cell? ⟨w.heap.size, 1, none⟩ = some (.string t) := N1.cell 1
      have c2 : w1.cell? ⟨w.heap.size, 2, none⟩ = some (.int .i64 c) := N1.cell 2
      clear hb hb1 N1
      cases h1 : (t.toList == []) with
      | true =>
        have et : t = ⟨#[]⟩ := text_eq ((by simpa using h1 : t.toList = []).trans (by simp [ByteArray.toList_eq]))
        subst et
        clear h1
        by_cases hc : c < 0
        · go_wp2_with fail
          go_meet
          exact ⟨true, rfl, ⟨fun k => (by cases k), fun k => by omega⟩, HB1.out⟩
        · go_wp2_with fail
          go_meet
          exact ⟨false, by rw [decide_eq_false (by omega)], ⟨fun _ => ⟨HSET.out, .inl (by simp [ByteArray.toList_eq]), by omega⟩, fun _ => rfl⟩, HB1.out⟩
      | false =>
        have HNE : Hid (¬ t.toList = []) := by show ¬ t.toList = []; simpa using h1
        cases hw : tlt f t with
        | false =>
          have HTF := hid hw
          unfold tlt at hw
          go_wp2_with fail
          go_meet
          exact ⟨true, rfl, ⟨fun k => (by cases k), fun k => by
            rcases k.2.1 with k | k
            · exact absurd k HNE.out
            · rw [HTF.out] at k; cases k⟩, HB1.out⟩
        | true =>
          have HTT := hid hw
          unfold tlt at hw
          by_cases hc : c < 0
          · go_wp2_with fail
            go_meet
            exact ⟨true, rfl, ⟨fun k => (by cases k), fun k => by omega⟩, HB1.out⟩
          · go_wp2_with fail
            go_meet
            exact ⟨false, by rw [decide_eq_false (by omega)], ⟨fun _ => ⟨HSET.out, .inr HTT.out, by omega⟩, fun _ => rfl⟩, HB1.out⟩
  case rest =>
    obtain ⟨b, rfl, hb, hbw⟩ := hcut
    have hbw' : Below (w.alloc (.cells #[.string f, .string t, .int .i64 c, .string m, .bool h, .slice a ss.length ca] 25)).heap.size (w.alloc (.cells #[.string f, .string t, .int .i64 c, .string m, .bool h, .slice a ss.length ca] 25)) wc := by rw [World.size_alloc]; exact hbw
    have HB1 := hid (HA.out.trans (hbw'.mono (by simp)))
    have HN1 := hid (HN.out.below hbw')
    have HS1 := hid (HS.out.below hbw')
    clear hbw hbw'
    cases b with
    | true =>
      have HF : Hid (¬ (IsSet n ts ∧ OkNote n ⟨f, t, c, m, h, ss⟩)) := fun k => by have := hb.2 ⟨k.1, k.2.way, k.2.count⟩; cases this
      clear hb
      go_wp2
      go_ret
      exact BRes.no HF.out HB1.out
    | false =>
    have HSET := hid (hb.1 rfl).1
    have HWAY := hid (hb.1 rfl).2.1
    have hc := (hb.1 rfl).2.2
    clear hb
    have c4 : wc.cell? ⟨w.heap.size, 4, none⟩ = some (.bool h) := HN1.out.cell 4
    have c5 : wc.cell? ⟨w.heap.size, 5, none⟩ = some (.slice a ss.length ca) := HN1.out.cell 5
    cases h with
    | false =>
      by_cases h0 : ss.length = 0
      · have HY : Hid (IsSet n ts ∧ OkNote n ⟨f, t, c, m, false, ss⟩) := ⟨HSET.out, HWAY.out, by dsimp only; omega, .inl ⟨rfl, h0⟩⟩
        have h0b : ((ss.length : Int) == 0) = true := by rw [beq_iff_eq]; omega
        clear h0 HLS HTH HS1
        generalize ss.length = sl at *
        go_wp2
        go_ret
        exact ⟨true, by simp, ⟨fun _ => HY.out, fun _ => rfl⟩, HB1.out⟩
      · have HF : Hid (¬ (IsSet n ts ∧ OkNote n ⟨f, t, c, m, false, ss⟩)) := fun k => by
          rcases k.2.sums with ⟨_, k2⟩ | ⟨k2, _⟩
          · exact h0 k2
          · cases k2
        have h0b : ((ss.length : Int) == 0) = false := by rw [beq_eq_false_iff_ne]; omega
        clear h0
        go_wp2
        go_ret
        exact BRes.no HF.out HB1.out
    | true =>
      by_cases hc0 : c = 0
      case neg =>
        have HF : Hid (¬ (IsSet n ts ∧ OkNote n ⟨f, t, c, m, true, ss⟩)) := fun k => by
          rcases k.2.sums with ⟨k2, _⟩ | ⟨_, k2, _⟩
          · cases k2
          · exact hc0 k2
        have hcb : (c == 0) = false := by simpa using hc0
        have hS0 : wc.drew.cell? ⟨w.heap.size, 0, none⟩ = some (.string f) ∧ wc.drew.cell? ⟨w.heap.size, 1, none⟩ = some (.string t) ∧ wc.drew.cell? ⟨w.heap.size, 2, none⟩ = some (.int .i64 c) ∧ wc.drew.cell? ⟨w.heap.size, 3, none⟩ = some (.string m) ∧ wc.drew.cell? ⟨w.heap.size, 5, none⟩ = some (.slice a ss.length ca) := ⟨HN1.out.cell 0, HN1.out.cell 1, HN1.out.cell 2, HN1.out.cell 3, HN1.out.cell 5⟩
        go_wp2_with fail
        refine wp_region_held (S := fun w' => w'.cell? ⟨w.heap.size, 0, none⟩ = some (.string f) ∧ w'.cell? ⟨w.heap.size, 1, none⟩ = some (.string t) ∧ w'.cell? ⟨w.heap.size, 2, none⟩ = some (.int .i64 c) ∧ w'.cell? ⟨w.heap.size, 3, none⟩ = some (.string m) ∧ w'.cell? ⟨w.heap.size, 5, none⟩ = some (.slice a ss.length ca)) (by kernel_rfl) ?_
        change wpAnyH _ _ _ _ _ _ _ _ (World.drew _)
        refine wpAnyH_take (i := 0) (v := .pointer (some ⟨w.heap.size, 2, none⟩)) rfl (by kernel_rfl) (by kernel_rfl) (by kernel_rfl) (fun _ _ _ h => h) (.inl ⟨rfl, fun w' hS => by obtain ⟨s1, s2, s3, s4, s5⟩ := hS; go_simp⟩) hS0 ?_
        refine wpAnyH_take (i := 1) (v := .int .i64 c) rfl (by kernel_rfl) (by kernel_rfl) (by kernel_rfl) (fun _ _ _ h => h) (.inl ⟨rfl, fun w' hS => by obtain ⟨s1, s2, s3, s4, s5⟩ := hS; go_simp⟩) hS0 ?_
        refine wpAnyH_take (i := 2) (v := .bool false) rfl (by kernel_rfl) (by kernel_rfl) (by kernel_rfl) (fun _ _ _ h => h) (.inl ⟨rfl, fun w' hS => by obtain ⟨s1, s2, s3, s4, s5⟩ := hS; go_simp⟩) hS0 ?_
        refine wpAnyH_take (i := 3) (v := .bool false) rfl (by kernel_rfl) (by kernel_rfl) (by kernel_rfl) (fun _ _ _ h => h) (.inl ⟨rfl, fun w' hS => by obtain ⟨s1, s2, s3, s4, s5⟩ := hS; go_simp⟩) hS0 ?_
        refine wpAnyH_take (i := 4) (v := undef) rfl (by kernel_rfl) (by kernel_rfl) (by kernel_rfl) (fun _ _ _ h => h) (.inr ⟨by first | (go_simp; done) | (go_simp; simp [undef]), rfl⟩) hS0 ?_
        refine wpAnyH_take (i := 5) (v := undef) rfl (by kernel_rfl) (by kernel_rfl) (by kernel_rfl) (fun _ _ _ h => h) (.inr ⟨by first | (go_simp; done) | (go_simp; simp [undef]), rfl⟩) hS0 ?_
        refine wpAnyH_take (i := 6) (v := undef) rfl (by kernel_rfl) (by kernel_rfl) (by kernel_rfl) (fun _ _ _ h => h) (.inr ⟨by first | (go_simp; done) | (go_simp; simp [undef]), rfl⟩) hS0 ?_
        refine wpAnyH_take (i := 7) (v := .bool false) rfl (by kernel_rfl) (by kernel_rfl) (by kernel_rfl) (fun _ _ _ h => h) (.inl ⟨rfl, fun w' hS => by obtain ⟨s1, s2, s3, s4, s5⟩ := hS; go_simp⟩) hS0 ?_
        refine wpAnyH_take (i := 8) (v := .bool false) rfl (by kernel_rfl) (by kernel_rfl) (by kernel_rfl) (fun _ _ _ h => h) (.inl ⟨rfl, fun w' hS => by obtain ⟨s1, s2, s3, s4, s5⟩ := hS; go_simp⟩) hS0 ?_
        refine wpAnyH_take (i := 9) (v := undef) rfl (by kernel_rfl) (by kernel_rfl) (by kernel_rfl) (fun _ _ _ h => h) (.inr ⟨by first | (go_simp; done) | (go_simp; simp [undef]), rfl⟩) hS0 ?_
        refine wpAnyH_take (i := 10) (v := undef) rfl (by kernel_rfl) (by kernel_rfl) (by kernel_rfl) (fun _ _ _ h => h) (.inr ⟨by first | (go_simp; done) | (go_simp; simp [undef]), rfl⟩) hS0 ?_
        refine wpAnyH_take (i := 11) (v := undef) rfl (by kernel_rfl) (by kernel_rfl) (by kernel_rfl) (fun _ _ _ h => h) (.inr ⟨by first | (go_simp; done) | (go_simp; simp [undef]), rfl⟩) hS0 ?_
        refine wpAnyH_take (i := 12) (v := undef) rfl (by kernel_rfl) (by kernel_rfl) (by kernel_rfl) (fun _ _ _ h => h) (.inr ⟨by first | (go_simp; done) | (go_simp; simp [undef]), rfl⟩) hS0 ?_
        refine wpAnyH_take (i := 13) (v := .bool false) rfl (by kernel_rfl) (by kernel_rfl) (by kernel_rfl) (fun _ _ _ h => h) (.inl ⟨rfl, fun w' hS => by obtain ⟨s1, s2, s3, s4, s5⟩ := hS; go_simp⟩) hS0 ?_
        refine wpAnyH_take (i := 14) (v := .bool false) rfl (by kernel_rfl) (by kernel_rfl) (by kernel_rfl) (fun _ _ _ h => h) (.inl ⟨rfl, fun w' hS => by obtain ⟨s1, s2, s3, s4, s5⟩ := hS; go_simp⟩) hS0 ?_
        refine wpAnyH_take (i := 15) (v := undef) rfl (by kernel_rfl) (by kernel_rfl) (by kernel_rfl) (fun _ _ _ h => h) (.inr ⟨by first | (go_simp; done) | (go_simp; simp [undef]), rfl⟩) hS0 ?_
        refine wpAnyH_take (i := 16) (v := undef) rfl (by kernel_rfl) (by kernel_rfl) (by kernel_rfl) (fun _ _ _ h => h) (.inr ⟨by first | (go_simp; done) | (go_simp; simp [undef]), rfl⟩) hS0 ?_
        refine wpAnyH_take (i := 17) (v := undef) rfl (by kernel_rfl) (by kernel_rfl) (by kernel_rfl) (fun _ _ _ h => h) (.inr ⟨by first | (go_simp; done) | (go_simp; simp [undef]), rfl⟩) hS0 ?_
        refine wpAnyH_take (i := 18) (v := undef) rfl (by kernel_rfl) (by kernel_rfl) (by kernel_rfl) (fun _ _ _ h => h) (.inr ⟨by first | (go_simp; done) | (go_simp; simp [undef]), rfl⟩) hS0 ?_
        refine wpAnyH_take (i := 19) (v := undef) rfl (by kernel_rfl) (by kernel_rfl) (by kernel_rfl) (fun _ _ _ h => h) (.inr ⟨by first | (go_simp; done) | (go_simp; simp [undef]), rfl⟩) hS0 ?_
        refine wpAnyH_take (i := 20) (v := undef) rfl (by kernel_rfl) (by kernel_rfl) (by kernel_rfl) (fun _ _ _ h => h) (.inr ⟨by first | (go_simp; done) | (go_simp; simp [undef]), rfl⟩) hS0 ?_
        refine wpAnyH_take (i := 21) (v := undef) rfl (by kernel_rfl) (by kernel_rfl) (by kernel_rfl) (fun _ _ _ h => h) (.inr ⟨by first | (go_simp; done) | (go_simp; simp [undef]), rfl⟩) hS0 ?_
        refine wpAnyH_take (i := 22) (v := undef) rfl (by kernel_rfl) (by kernel_rfl) (by kernel_rfl) (fun _ _ _ h => h) (.inr ⟨by first | (go_simp; done) | (go_simp; simp [undef]), rfl⟩) hS0 ?_
        refine wpAnyH_take (i := 23) (v := undef) rfl (by kernel_rfl) (by kernel_rfl) (by kernel_rfl) (fun _ _ _ h => h) (.inr ⟨by first | (go_simp; done) | (go_simp; simp [undef]), rfl⟩) hS0 ?_
        refine wpAnyH_take (i := 24) (v := undef) rfl (by kernel_rfl) (by kernel_rfl) (by kernel_rfl) (fun _ _ _ h => h) (.inr ⟨by first | (go_simp; done) | (go_simp; simp [undef]), rfl⟩) hS0 ?_
        refine wpAnyH_take (i := 25) (v := undef) rfl (by kernel_rfl) (by kernel_rfl) (by kernel_rfl) (fun _ _ _ h => h) (.inr ⟨by first | (go_simp; done) | (go_simp; simp [undef]), rfl⟩) hS0 ?_
        refine wpAnyH_take (i := 26) (v := undef) rfl (by kernel_rfl) (by kernel_rfl) (by kernel_rfl) (fun _ _ _ h => h) (.inr ⟨by first | (go_simp; done) | (go_simp; simp [undef]), rfl⟩) hS0 ?_
        refine wpAnyH_take (i := 27) (v := .bool false) rfl (by kernel_rfl) (by kernel_rfl) (by kernel_rfl) (fun _ _ _ h => h) (.inl ⟨rfl, fun w' hS => by obtain ⟨s1, s2, s3, s4, s5⟩ := hS; go_simp⟩) hS0 ?_
        refine wpAnyH_take (i := 28) (v := .bool false) rfl (by kernel_rfl) (by kernel_rfl) (by kernel_rfl) (fun _ _ _ h => h) (.inl ⟨rfl, fun w' hS => by obtain ⟨s1, s2, s3, s4, s5⟩ := hS; go_simp⟩) hS0 ?_
        refine wpAnyH_done (by kernel_rfl) ?_ _
        clear hS0
        go_simp
        go_wp2
        go_ret
        exact BRes.no HF.out (below_drewN HB1.out 1)
      cases hm : (m.toList == []) with
      | false =>
        have HF : Hid (¬ (IsSet n ts ∧ OkNote n ⟨f, t, c, m, true, ss⟩)) := fun k => by
          rcases k.2.sums with ⟨k2, _⟩ | ⟨_, _, k2, _⟩
          · cases k2
          · dsimp only at k2; rw [k2] at hm; cases hm
        subst hc0
        have hS0 : wc.drew.cell? ⟨w.heap.size, 0, none⟩ = some (.string f) ∧ wc.drew.cell? ⟨w.heap.size, 1, none⟩ = some (.string t) ∧ wc.drew.cell? ⟨w.heap.size, 2, none⟩ = some (.int .i64 0) ∧ wc.drew.cell? ⟨w.heap.size, 3, none⟩ = some (.string m) ∧ wc.drew.cell? ⟨w.heap.size, 5, none⟩ = some (.slice a ss.length ca) := ⟨HN1.out.cell 0, HN1.out.cell 1, HN1.out.cell 2, HN1.out.cell 3, HN1.out.cell 5⟩
        go_wp2_with fail
        refine wp_region_held (S := fun w' => w'.cell? ⟨w.heap.size, 0, none⟩ = some (.string f) ∧ w'.cell? ⟨w.heap.size, 1, none⟩ = some (.string t) ∧ w'.cell? ⟨w.heap.size, 2, none⟩ = some (.int .i64 0) ∧ w'.cell? ⟨w.heap.size, 3, none⟩ = some (.string m) ∧ w'.cell? ⟨w.heap.size, 5, none⟩ = some (.slice a ss.length ca)) (by kernel_rfl) ?_
        change wpAnyH _ _ _ _ _ _ _ _ (World.drew _)
        refine wpAnyH_take (i := 0) (v := .pointer (some ⟨w.heap.size, 2, none⟩)) rfl (by kernel_rfl) (by kernel_rfl) (by kernel_rfl) (fun _ _ _ h => h) (.inl ⟨rfl, fun w' hS => by obtain ⟨s1, s2, s3, s4, s5⟩ := hS; go_simp⟩) hS0 ?_
        refine wpAnyH_take (i := 1) (v := .int .i64 0) rfl (by kernel_rfl) (by kernel_rfl) (by kernel_rfl) (fun _ _ _ h => h) (.inl ⟨rfl, fun w' hS => by obtain ⟨s1, s2, s3, s4, s5⟩ := hS; go_simp⟩) hS0 ?_
        refine wpAnyH_take (i := 2) (v := .bool true) rfl (by kernel_rfl) (by kernel_rfl) (by kernel_rfl) (fun _ _ _ h => h) (.inl ⟨rfl, fun w' hS => by obtain ⟨s1, s2, s3, s4, s5⟩ := hS; go_simp⟩) hS0 ?_
        refine wpAnyH_take (i := 3) (v := .bool true) rfl (by kernel_rfl) (by kernel_rfl) (by kernel_rfl) (fun _ _ _ h => h) (.inl ⟨rfl, fun w' hS => by obtain ⟨s1, s2, s3, s4, s5⟩ := hS; go_simp⟩) hS0 ?_
        refine wpAnyH_take (i := 4) (v := .pointer (some ⟨w.heap.size, 3, none⟩)) rfl (by kernel_rfl) (by kernel_rfl) (by kernel_rfl) (fun _ _ _ h => h) (.inl ⟨by go_simp, fun w' hS => by obtain ⟨s1, s2, s3, s4, s5⟩ := hS; go_simp⟩) hS0 ?_
        refine wpAnyH_take (i := 5) (v := .string m) rfl (by kernel_rfl) (by kernel_rfl) (by kernel_rfl) (fun _ _ _ h => h) (.inl ⟨by go_simp, fun w' hS => by obtain ⟨s1, s2, s3, s4, s5⟩ := hS; go_simp⟩) hS0 ?_
        refine wpAnyH_take (i := 6) (v := .bool false) rfl (by kernel_rfl) (by kernel_rfl) (by kernel_rfl) (fun _ _ _ h => h) (.inl ⟨by go_simp, fun w' hS => by obtain ⟨s1, s2, s3, s4, s5⟩ := hS; go_simp⟩) hS0 ?_
        refine wpAnyH_take (i := 7) (v := .bool false) rfl (by kernel_rfl) (by kernel_rfl) (by kernel_rfl) (fun _ _ _ h => h) (.inl ⟨rfl, fun w' hS => by obtain ⟨s1, s2, s3, s4, s5⟩ := hS; go_simp⟩) hS0 ?_
        refine wpAnyH_take (i := 8) (v := .bool false) rfl (by kernel_rfl) (by kernel_rfl) (by kernel_rfl) (fun _ _ _ h => h) (.inl ⟨rfl, fun w' hS => by obtain ⟨s1, s2, s3, s4, s5⟩ := hS; go_simp⟩) hS0 ?_
        refine wpAnyH_take (i := 9) (v := undef) rfl (by kernel_rfl) (by kernel_rfl) (by kernel_rfl) (fun _ _ _ h => h) (.inr ⟨by first | (go_simp; done) | (go_simp; simp [undef]), rfl⟩) hS0 ?_
        refine wpAnyH_take (i := 10) (v := undef) rfl (by kernel_rfl) (by kernel_rfl) (by kernel_rfl) (fun _ _ _ h => h) (.inr ⟨by first | (go_simp; done) | (go_simp; simp [undef]), rfl⟩) hS0 ?_
        refine wpAnyH_take (i := 11) (v := undef) rfl (by kernel_rfl) (by kernel_rfl) (by kernel_rfl) (fun _ _ _ h => h) (.inr ⟨by first | (go_simp; done) | (go_simp; simp [undef]), rfl⟩) hS0 ?_
        refine wpAnyH_take (i := 12) (v := undef) rfl (by kernel_rfl) (by kernel_rfl) (by kernel_rfl) (fun _ _ _ h => h) (.inr ⟨by first | (go_simp; done) | (go_simp; simp [undef]), rfl⟩) hS0 ?_
        refine wpAnyH_take (i := 13) (v := .bool false) rfl (by kernel_rfl) (by kernel_rfl) (by kernel_rfl) (fun _ _ _ h => h) (.inl ⟨rfl, fun w' hS => by obtain ⟨s1, s2, s3, s4, s5⟩ := hS; go_simp⟩) hS0 ?_
        refine wpAnyH_take (i := 14) (v := .bool false) rfl (by kernel_rfl) (by kernel_rfl) (by kernel_rfl) (fun _ _ _ h => h) (.inl ⟨rfl, fun w' hS => by obtain ⟨s1, s2, s3, s4, s5⟩ := hS; go_simp⟩) hS0 ?_
        refine wpAnyH_take (i := 15) (v := undef) rfl (by kernel_rfl) (by kernel_rfl) (by kernel_rfl) (fun _ _ _ h => h) (.inr ⟨by first | (go_simp; done) | (go_simp; simp [undef]), rfl⟩) hS0 ?_
        refine wpAnyH_take (i := 16) (v := undef) rfl (by kernel_rfl) (by kernel_rfl) (by kernel_rfl) (fun _ _ _ h => h) (.inr ⟨by first | (go_simp; done) | (go_simp; simp [undef]), rfl⟩) hS0 ?_
        refine wpAnyH_take (i := 17) (v := undef) rfl (by kernel_rfl) (by kernel_rfl) (by kernel_rfl) (fun _ _ _ h => h) (.inr ⟨by first | (go_simp; done) | (go_simp; simp [undef]), rfl⟩) hS0 ?_
        refine wpAnyH_take (i := 18) (v := undef) rfl (by kernel_rfl) (by kernel_rfl) (by kernel_rfl) (fun _ _ _ h => h) (.inr ⟨by first | (go_simp; done) | (go_simp; simp [undef]), rfl⟩) hS0 ?_
        refine wpAnyH_take (i := 19) (v := undef) rfl (by kernel_rfl) (by kernel_rfl) (by kernel_rfl) (fun _ _ _ h => h) (.inr ⟨by first | (go_simp; done) | (go_simp; simp [undef]), rfl⟩) hS0 ?_
        refine wpAnyH_take (i := 20) (v := undef) rfl (by kernel_rfl) (by kernel_rfl) (by kernel_rfl) (fun _ _ _ h => h) (.inr ⟨by first | (go_simp; done) | (go_simp; simp [undef]), rfl⟩) hS0 ?_
        refine wpAnyH_take (i := 21) (v := undef) rfl (by kernel_rfl) (by kernel_rfl) (by kernel_rfl) (fun _ _ _ h => h) (.inr ⟨by first | (go_simp; done) | (go_simp; simp [undef]), rfl⟩) hS0 ?_
        refine wpAnyH_take (i := 22) (v := undef) rfl (by kernel_rfl) (by kernel_rfl) (by kernel_rfl) (fun _ _ _ h => h) (.inr ⟨by first | (go_simp; done) | (go_simp; simp [undef]), rfl⟩) hS0 ?_
        refine wpAnyH_take (i := 23) (v := undef) rfl (by kernel_rfl) (by kernel_rfl) (by kernel_rfl) (fun _ _ _ h => h) (.inr ⟨by first | (go_simp; done) | (go_simp; simp [undef]), rfl⟩) hS0 ?_
        refine wpAnyH_take (i := 24) (v := undef) rfl (by kernel_rfl) (by kernel_rfl) (by kernel_rfl) (fun _ _ _ h => h) (.inr ⟨by first | (go_simp; done) | (go_simp; simp [undef]), rfl⟩) hS0 ?_
        refine wpAnyH_take (i := 25) (v := undef) rfl (by kernel_rfl) (by kernel_rfl) (by kernel_rfl) (fun _ _ _ h => h) (.inr ⟨by first | (go_simp; done) | (go_simp; simp [undef]), rfl⟩) hS0 ?_
        refine wpAnyH_take (i := 26) (v := undef) rfl (by kernel_rfl) (by kernel_rfl) (by kernel_rfl) (fun _ _ _ h => h) (.inr ⟨by first | (go_simp; done) | (go_simp; simp [undef]), rfl⟩) hS0 ?_
        refine wpAnyH_take (i := 27) (v := .bool false) rfl (by kernel_rfl) (by kernel_rfl) (by kernel_rfl) (fun _ _ _ h => h) (.inl ⟨rfl, fun w' hS => by obtain ⟨s1, s2, s3, s4, s5⟩ := hS; go_simp⟩) hS0 ?_
        refine wpAnyH_take (i := 28) (v := .bool false) rfl (by kernel_rfl) (by kernel_rfl) (by kernel_rfl) (fun _ _ _ h => h) (.inl ⟨rfl, fun w' hS => by obtain ⟨s1, s2, s3, s4, s5⟩ := hS; go_simp⟩) hS0 ?_
        refine wpAnyH_done (by kernel_rfl) ?_ _
        clear hS0
        go_simp
        go_wp2
        go_ret
        exact BRes.no HF.out (below_drewN HB1.out 1)
      | true =>
      have em : m = ⟨#[]⟩ := text_eq ((by simpa using hm : m.toList = []).trans (by simp [ByteArray.toList_eq]))
      subst hc0
      subst em
      clear hm
      have hS0 : wc.drew.cell? ⟨w.heap.size, 0, none⟩ = some (.string f) ∧ wc.drew.cell? ⟨w.heap.size, 1, none⟩ = some (.string t) ∧ wc.drew.cell? ⟨w.heap.size, 2, none⟩ = some (.int .i64 0) ∧ wc.drew.cell? ⟨w.heap.size, 3, none⟩ = some (.string ⟨#[]⟩) ∧ wc.drew.cell? ⟨w.heap.size, 5, none⟩ = some (.slice a ss.length ca) := ⟨HN1.out.cell 0, HN1.out.cell 1, HN1.out.cell 2, HN1.out.cell 3, HN1.out.cell 5⟩
      go_wp2_with fail
      refine wp_region_held (S := fun w' => w'.cell? ⟨w.heap.size, 0, none⟩ = some (.string f) ∧ w'.cell? ⟨w.heap.size, 1, none⟩ = some (.string t) ∧ w'.cell? ⟨w.heap.size, 2, none⟩ = some (.int .i64 0) ∧ w'.cell? ⟨w.heap.size, 3, none⟩ = some (.string ⟨#[]⟩) ∧ w'.cell? ⟨w.heap.size, 5, none⟩ = some (.slice a ss.length ca)) (by kernel_rfl) ?_
      change wpAnyH _ _ _ _ _ _ _ _ (World.drew _)
      refine wpAnyH_take (i := 0) (v := .pointer (some ⟨w.heap.size, 2, none⟩)) rfl (by kernel_rfl) (by kernel_rfl) (by kernel_rfl) (fun _ _ _ h => h) (.inl ⟨rfl, fun w' hS => by obtain ⟨s1, s2, s3, s4, s5⟩ := hS; go_simp⟩) hS0 ?_
      refine wpAnyH_take (i := 1) (v := .int .i64 0) rfl (by kernel_rfl) (by kernel_rfl) (by kernel_rfl) (fun _ _ _ h => h) (.inl ⟨rfl, fun w' hS => by obtain ⟨s1, s2, s3, s4, s5⟩ := hS; go_simp⟩) hS0 ?_
      refine wpAnyH_take (i := 2) (v := .bool true) rfl (by kernel_rfl) (by kernel_rfl) (by kernel_rfl) (fun _ _ _ h => h) (.inl ⟨rfl, fun w' hS => by obtain ⟨s1, s2, s3, s4, s5⟩ := hS; go_simp⟩) hS0 ?_
      refine wpAnyH_take (i := 3) (v := .bool true) rfl (by kernel_rfl) (by kernel_rfl) (by kernel_rfl) (fun _ _ _ h => h) (.inl ⟨rfl, fun w' hS => by obtain ⟨s1, s2, s3, s4, s5⟩ := hS; go_simp⟩) hS0 ?_
      refine wpAnyH_take (i := 4) (v := .pointer (some ⟨w.heap.size, 3, none⟩)) rfl (by kernel_rfl) (by kernel_rfl) (by kernel_rfl) (fun _ _ _ h => h) (.inl ⟨by go_simp, fun w' hS => by obtain ⟨s1, s2, s3, s4, s5⟩ := hS; go_simp⟩) hS0 ?_
      refine wpAnyH_take (i := 5) (v := .string ⟨#[]⟩) rfl (by kernel_rfl) (by kernel_rfl) (by kernel_rfl) (fun _ _ _ h => h) (.inl ⟨by go_simp, fun w' hS => by obtain ⟨s1, s2, s3, s4, s5⟩ := hS; go_simp⟩) hS0 ?_
      refine wpAnyH_take (i := 6) (v := .bool true) rfl (by kernel_rfl) (by kernel_rfl) (by kernel_rfl) (fun _ _ _ h => h) (.inl ⟨by go_simp, fun w' hS => by obtain ⟨s1, s2, s3, s4, s5⟩ := hS; go_simp⟩) hS0 ?_
      refine wpAnyH_take (i := 7) (v := .bool true) rfl (by kernel_rfl) (by kernel_rfl) (by kernel_rfl) (fun _ _ _ h => h) (.inl ⟨rfl, fun w' hS => by obtain ⟨s1, s2, s3, s4, s5⟩ := hS; go_simp⟩) hS0 ?_
      refine wpAnyH_take (i := 8) (v := .bool true) rfl (by kernel_rfl) (by kernel_rfl) (by kernel_rfl) (fun _ _ _ h => h) (.inl ⟨rfl, fun w' hS => by obtain ⟨s1, s2, s3, s4, s5⟩ := hS; go_simp⟩) hS0 ?_
      refine wpAnyH_take (i := 9) (v := .pointer (some ⟨w.heap.size, 5, none⟩)) rfl (by kernel_rfl) (by kernel_rfl) (by kernel_rfl) (fun _ _ _ h => h) (.inl ⟨by go_simp, fun w' hS => by obtain ⟨s1, s2, s3, s4, s5⟩ := hS; go_simp⟩) hS0 ?_
      refine wpAnyH_take (i := 10) (v := .slice a ss.length ca) rfl (by kernel_rfl) (by kernel_rfl) (by kernel_rfl) (fun _ _ _ h => h) (.inl ⟨by go_simp, fun w' hS => by obtain ⟨s1, s2, s3, s4, s5⟩ := hS; go_simp⟩) hS0 ?_
      refine wpAnyH_take (i := 11) (v := .int .i64 n) rfl (by kernel_rfl) (by kernel_rfl) (by kernel_rfl) (fun _ _ _ h => h) (.inl ⟨by go_simp, fun w' hS => by obtain ⟨s1, s2, s3, s4, s5⟩ := hS; go_simp⟩) hS0 ?_
      refine held_one 12 (by kernel_rfl) ?_
      refine @op_wpW _ _ _ _ _ _ 12 ?oa ?hoa ?hwa ?hha
      case hoa => rfl
      case hwa => go_simp
      unfold Oper.wp
      go_simp
      refine (HLS.out _ (HS1.out.below (below_drewN (Below.refl _ _) 1))).mono ?_
      rintro e w2 ⟨b, rfl, hb, hb2⟩
      have hb2' : Below wc.heap.size wc w2 := ⟨hb2.os, hb2.tape, hb2.output, hb2.size, hb2.block⟩
      have N2 := HN1.out.below hb2'
      have hS1 : w2.cell? ⟨w.heap.size, 0, none⟩ = some (.string f) ∧ w2.cell? ⟨w.heap.size, 1, none⟩ = some (.string t) ∧ w2.cell? ⟨w.heap.size, 2, none⟩ = some (.int .i64 0) ∧ w2.cell? ⟨w.heap.size, 3, none⟩ = some (.string ⟨#[]⟩) ∧ w2.cell? ⟨w.heap.size, 5, none⟩ = some (.slice a ss.length ca) := ⟨N2.cell 0, N2.cell 1, N2.cell 2, N2.cell 3, N2.cell 5⟩
      have HB2 := hid (HB1.out.trans (hb2'.mono HB1.out.size))
      refine ⟨hS1, ?_⟩
      cases b with
      | false =>
        have HF : Hid (¬ (IsSet n ts ∧ OkNote n ⟨f, t, 0, ⟨#[]⟩, true, ss⟩)) := fun k => by
          rcases k.2.sums with ⟨k2, _⟩ | ⟨_, _, _, k2, _⟩
          · cases k2
          · have := hb.2 k2; cases this
        clear hb
        refine wpAnyH_take (i := 13) (v := .bool false) rfl (by kernel_rfl) (by kernel_rfl) (by kernel_rfl) (fun _ _ _ h => h) (.inl ⟨rfl, fun w' hS => by obtain ⟨s1, s2, s3, s4, s5⟩ := hS; go_simp⟩) hS1 ?_
        refine wpAnyH_take (i := 14) (v := .bool false) rfl (by kernel_rfl) (by kernel_rfl) (by kernel_rfl) (fun _ _ _ h => h) (.inl ⟨rfl, fun w' hS => by obtain ⟨s1, s2, s3, s4, s5⟩ := hS; go_simp⟩) hS1 ?_
        refine wpAnyH_take (i := 15) (v := undef) rfl (by kernel_rfl) (by kernel_rfl) (by kernel_rfl) (fun _ _ _ h => h) (.inr ⟨by first | (go_simp; done) | (go_simp; simp [undef]), rfl⟩) hS1 ?_
        refine wpAnyH_take (i := 16) (v := undef) rfl (by kernel_rfl) (by kernel_rfl) (by kernel_rfl) (fun _ _ _ h => h) (.inr ⟨by first | (go_simp; done) | (go_simp; simp [undef]), rfl⟩) hS1 ?_
        refine wpAnyH_take (i := 17) (v := undef) rfl (by kernel_rfl) (by kernel_rfl) (by kernel_rfl) (fun _ _ _ h => h) (.inr ⟨by first | (go_simp; done) | (go_simp; simp [undef]), rfl⟩) hS1 ?_
        refine wpAnyH_take (i := 18) (v := undef) rfl (by kernel_rfl) (by kernel_rfl) (by kernel_rfl) (fun _ _ _ h => h) (.inr ⟨by first | (go_simp; done) | (go_simp; simp [undef]), rfl⟩) hS1 ?_
        refine wpAnyH_take (i := 19) (v := undef) rfl (by kernel_rfl) (by kernel_rfl) (by kernel_rfl) (fun _ _ _ h => h) (.inr ⟨by first | (go_simp; done) | (go_simp; simp [undef]), rfl⟩) hS1 ?_
        refine wpAnyH_take (i := 20) (v := undef) rfl (by kernel_rfl) (by kernel_rfl) (by kernel_rfl) (fun _ _ _ h => h) (.inr ⟨by first | (go_simp; done) | (go_simp; simp [undef]), rfl⟩) hS1 ?_
        refine wpAnyH_take (i := 21) (v := undef) rfl (by kernel_rfl) (by kernel_rfl) (by kernel_rfl) (fun _ _ _ h => h) (.inr ⟨by first | (go_simp; done) | (go_simp; simp [undef]), rfl⟩) hS1 ?_
        refine wpAnyH_take (i := 22) (v := undef) rfl (by kernel_rfl) (by kernel_rfl) (by kernel_rfl) (fun _ _ _ h => h) (.inr ⟨by first | (go_simp; done) | (go_simp; simp [undef]), rfl⟩) hS1 ?_
        refine wpAnyH_take (i := 23) (v := undef) rfl (by kernel_rfl) (by kernel_rfl) (by kernel_rfl) (fun _ _ _ h => h) (.inr ⟨by first | (go_simp; done) | (go_simp; simp [undef]), rfl⟩) hS1 ?_
        refine wpAnyH_take (i := 24) (v := undef) rfl (by kernel_rfl) (by kernel_rfl) (by kernel_rfl) (fun _ _ _ h => h) (.inr ⟨by first | (go_simp; done) | (go_simp; simp [undef]), rfl⟩) hS1 ?_
        refine wpAnyH_take (i := 25) (v := undef) rfl (by kernel_rfl) (by kernel_rfl) (by kernel_rfl) (fun _ _ _ h => h) (.inr ⟨by first | (go_simp; done) | (go_simp; simp [undef]), rfl⟩) hS1 ?_
        refine wpAnyH_take (i := 26) (v := undef) rfl (by kernel_rfl) (by kernel_rfl) (by kernel_rfl) (fun _ _ _ h => h) (.inr ⟨by first | (go_simp; done) | (go_simp; simp [undef]), rfl⟩) hS1 ?_
        refine wpAnyH_take (i := 27) (v := .bool false) rfl (by kernel_rfl) (by kernel_rfl) (by kernel_rfl) (fun _ _ _ h => h) (.inl ⟨rfl, fun w' hS => by obtain ⟨s1, s2, s3, s4, s5⟩ := hS; go_simp⟩) hS1 ?_
        refine wpAnyH_take (i := 28) (v := .bool false) rfl (by kernel_rfl) (by kernel_rfl) (by kernel_rfl) (fun _ _ _ h => h) (.inl ⟨rfl, fun w' hS => by obtain ⟨s1, s2, s3, s4, s5⟩ := hS; go_simp⟩) hS1 ?_
        clear hS0 hb2 hb2' N2
        refine wpAnyH_done (by kernel_rfl) ?_ _
        clear hS1
        go_simp
        go_wp2
        go_ret
        exact BRes.no HF.out HB2.out
      | true =>
        have HSS := hid (hb.1 rfl)
        clear hb
        refine wpAnyH_take (i := 13) (v := .bool true) rfl (by kernel_rfl) (by kernel_rfl) (by kernel_rfl) (fun _ _ _ h => h) (.inl ⟨rfl, fun w' hS => by obtain ⟨s1, s2, s3, s4, s5⟩ := hS; go_simp⟩) hS1 ?_
        refine wpAnyH_take (i := 14) (v := .bool true) rfl (by kernel_rfl) (by kernel_rfl) (by kernel_rfl) (fun _ _ _ h => h) (.inl ⟨rfl, fun w' hS => by obtain ⟨s1, s2, s3, s4, s5⟩ := hS; go_simp⟩) hS1 ?_
        refine wpAnyH_take (i := 15) (v := .pointer (some ⟨w.heap.size, 5, none⟩)) rfl (by kernel_rfl) (by kernel_rfl) (by kernel_rfl) (fun _ _ _ h => h) (.inl ⟨by go_simp, fun w' hS => by obtain ⟨s1, s2, s3, s4, s5⟩ := hS; go_simp⟩) hS1 ?_
        refine wpAnyH_take (i := 16) (v := .slice a ss.length ca) rfl (by kernel_rfl) (by kernel_rfl) (by kernel_rfl) (fun _ _ _ h => h) (.inl ⟨by go_simp, fun w' hS => by obtain ⟨s1, s2, s3, s4, s5⟩ := hS; go_simp⟩) hS1 ?_
        refine wpAnyH_take (i := 17) (v := .pointer (some ⟨w.heap.size, 0, none⟩)) rfl (by kernel_rfl) (by kernel_rfl) (by kernel_rfl) (fun _ _ _ h => h) (.inl ⟨by go_simp, fun w' hS => by obtain ⟨s1, s2, s3, s4, s5⟩ := hS; go_simp⟩) hS1 ?_
        refine wpAnyH_take (i := 18) (v := .string f) rfl (by kernel_rfl) (by kernel_rfl) (by kernel_rfl) (fun _ _ _ h => h) (.inl ⟨by go_simp, fun w' hS => by obtain ⟨s1, s2, s3, s4, s5⟩ := hS; go_simp⟩) hS1 ?_
        refine wpAnyH_take (i := 19) (v := .pointer (some ⟨w.heap.size, 1, none⟩)) rfl (by kernel_rfl) (by kernel_rfl) (by kernel_rfl) (fun _ _ _ h => h) (.inl ⟨by go_simp, fun w' hS => by obtain ⟨s1, s2, s3, s4, s5⟩ := hS; go_simp⟩) hS1 ?_
        refine wpAnyH_take (i := 20) (v := .string t) rfl (by kernel_rfl) (by kernel_rfl) (by kernel_rfl) (fun _ _ _ h => h) (.inl ⟨by go_simp, fun w' hS => by obtain ⟨s1, s2, s3, s4, s5⟩ := hS; go_simp⟩) hS1 ?_
        refine wpAnyH_take (i := 23) (v := .pointer (some ⟨w.heap.size, 5, none⟩)) rfl (by kernel_rfl) (by kernel_rfl) (by kernel_rfl) (fun _ _ _ h => h) (.inl ⟨by go_simp, fun w' hS => by obtain ⟨s1, s2, s3, s4, s5⟩ := hS; go_simp⟩) hS1 ?_
        refine wpAnyH_take (i := 24) (v := .slice a ss.length ca) rfl (by kernel_rfl) (by kernel_rfl) (by kernel_rfl) (fun _ _ _ h => h) (.inl ⟨by go_simp, fun w' hS => by obtain ⟨s1, s2, s3, s4, s5⟩ := hS; go_simp⟩) hS1 ?_
        refine wpAnyH_take (i := 25) (v := .int .i64 (ss.length : Nat)) rfl (by kernel_rfl) (by kernel_rfl) (by kernel_rfl) (fun _ _ _ h => h) (.inl ⟨by go_simp, fun w' hS => by obtain ⟨s1, s2, s3, s4, s5⟩ := hS; go_simp⟩) hS1 ?_
        refine held_one 21 (by kernel_rfl) ?_
        refine @op_wpW _ _ _ _ _ _ 21 ?ob ?hob ?hwb ?hhb
        case hob => rfl
        case hwb => go_simp
        unfold Oper.wp
        go_simp
        refine (HTH.out _ (HS1.out.below hb2')).mono ?_
        rintro e w3 ⟨v3, rfl, ho3, hb3⟩
        have N3 := N2.below hb3
        have hS2 : w3.cell? ⟨w.heap.size, 0, none⟩ = some (.string f) ∧ w3.cell? ⟨w.heap.size, 1, none⟩ = some (.string t) ∧ w3.cell? ⟨w.heap.size, 2, none⟩ = some (.int .i64 0) ∧ w3.cell? ⟨w.heap.size, 3, none⟩ = some (.string ⟨#[]⟩) ∧ w3.cell? ⟨w.heap.size, 5, none⟩ = some (.slice a ss.length ca) := ⟨N3.cell 0, N3.cell 1, N3.cell 2, N3.cell 3, N3.cell 5⟩
        have HB3 := hid (HB2.out.trans (hb3.mono HB2.out.size))
        obtain ⟨a3, c3, rfl, _⟩ := row_form ho3
        refine ⟨hS2, ?_⟩
        clear hb2 hb2' N2 hS0 hS1 hb3 ho3 N3
        have HLEN : Hid ((IsSet n ts ∧ OkNote n ⟨f, t, 0, ⟨#[]⟩, true, ss⟩) ↔ (fromTo f t ss).length = ss.length) := ⟨fun k => by
          rcases k.2.sums with ⟨k2, _⟩ | ⟨_, _, _, _, k2⟩
          · cases k2
          · exact k2, fun k => ⟨HSET.out, HWAY.out, by dsimp only; omega, .inr ⟨rfl, rfl, by simp [ByteArray.toList_eq], HSS.out, k⟩⟩⟩
        generalize (fromTo f t ss).length = fl at *
        refine wpAnyH_take (i := 22) (v := .int .i64 (fl : Nat)) rfl (by kernel_rfl) (by kernel_rfl) (by kernel_rfl) (fun _ _ _ h => h) (.inl ⟨by go_simp, fun w' hS => by obtain ⟨s1, s2, s3, s4, s5⟩ := hS; go_simp⟩) hS2 ?_
        by_cases he : fl = ss.length
        · have heb : ((fl : Int) == (ss.length : Int)) = true := by rw [beq_iff_eq]; omega
          have HY := hid (HLEN.out.2 he)
          clear he
          refine wpAnyH_take (i := 26) (v := .bool true) rfl (by kernel_rfl) (by kernel_rfl) (by kernel_rfl) (fun _ _ _ h => h) (.inl ⟨by go_simp, fun w' hS => by obtain ⟨s1, s2, s3, s4, s5⟩ := hS; go_simp⟩) hS2 ?_
          refine wpAnyH_take (i := 27) (v := .bool true) rfl (by kernel_rfl) (by kernel_rfl) (by kernel_rfl) (fun _ _ _ h => h) (.inl ⟨rfl, fun w' hS => by obtain ⟨s1, s2, s3, s4, s5⟩ := hS; go_simp⟩) hS2 ?_
          refine wpAnyH_take (i := 28) (v := .bool true) rfl (by kernel_rfl) (by kernel_rfl) (by kernel_rfl) (fun _ _ _ h => h) (.inl ⟨rfl, fun w' hS => by obtain ⟨s1, s2, s3, s4, s5⟩ := hS; go_simp⟩) hS2 ?_
          refine wpAnyH_done (by kernel_rfl) ?_ _
          clear hS2
          go_simp
          go_wp2
          go_ret
          exact BRes.yes HY.out HB3.out
        · have heb : ((fl : Int) == (ss.length : Int)) = false := by rw [beq_eq_false_iff_ne]; omega
          have HF : Hid (¬ (IsSet n ts ∧ OkNote n ⟨f, t, 0, ⟨#[]⟩, true, ss⟩)) := fun k => he (HLEN.out.1 k)
          clear he
          refine wpAnyH_take (i := 26) (v := .bool false) rfl (by kernel_rfl) (by kernel_rfl) (by kernel_rfl) (fun _ _ _ h => h) (.inl ⟨by go_simp, fun w' hS => by obtain ⟨s1, s2, s3, s4, s5⟩ := hS; go_simp⟩) hS2 ?_
          refine wpAnyH_take (i := 27) (v := .bool false) rfl (by kernel_rfl) (by kernel_rfl) (by kernel_rfl) (fun _ _ _ h => h) (.inl ⟨rfl, fun w' hS => by obtain ⟨s1, s2, s3, s4, s5⟩ := hS; go_simp⟩) hS2 ?_
          refine wpAnyH_take (i := 28) (v := .bool false) rfl (by kernel_rfl) (by kernel_rfl) (by kernel_rfl) (fun _ _ _ h => h) (.inl ⟨rfl, fun w' hS => by obtain ⟨s1, s2, s3, s4, s5⟩ := hS; go_simp⟩) hS2 ?_
          refine wpAnyH_done (by kernel_rfl) ?_ _
          clear hS2
          go_simp
          go_wp2
          go_ret
          exact BRes.no HF.out HB3.out
end Go.Proofs.Ytnpfnafalkejnaa
