/- impl.isNote. -/
import Derived.Test.YtnpfnafalkejnaaHearMath
import Derived.Test.YtnpfnafalkejnaaTellImpl
import Derived.Deep.CutRange
import Derived.Deep.DeepCutAuto
namespace Go.Proofs.Ytnpfnafalkejnaa
open Go.RowKit
def BRes (Q : Prop) (w : World) (e : Ending) (w' : World) : Prop := ∃ b, e = .returned (.bool b) ∧ (b = true ↔ Q) ∧ Below w.heap.size w w'
theorem BRes.no {Q : Prop} {w w' : World} (h : ¬ Q) (hb : Below w.heap.size w w') : BRes Q w (.returned (.bool false)) w' := ⟨false, rfl, ⟨fun h => (by cases h), fun k => absurd k h⟩, hb⟩
theorem BRes.yes {Q : Prop} {w w' : World} (h : Q) (hb : Below w.heap.size w w') : BRes Q w (.returned (.bool true)) w' := ⟨true, rfl, ⟨fun _ => h, fun _ => rfl⟩, hb⟩
/-- What a note is that may be heard. -/
structure OkNote (n : Int) (x : Nt) : Prop where
  way : x.t.toList = [] ∨ tlt x.f x.t = true
  count : 0 ≤ x.c
  sums : (x.h = false ∧ x.ss.length = 0) ∨ (x.h = true ∧ x.c = 0 ∧ x.m.toList = [] ∧ IsSet n x.ss ∧ (fromTo x.f x.t x.ss).length = x.ss.length)
set_option maxRecDepth 100000 in
set_option maxHeartbeats 2000000 in
theorem isNote_any (f t m : ByteArray) (c : Int) (h : Bool) (v : Value) (ss : List ByteArray) (n : Int) (w : World) (hv : Rdc w v ss) (hl : ss.length ≤ 1048576) (hsz : ∀ i, (tv ss i).size ≤ 1048576) :
    Calls Try.prog 31 #[.agg #[.string f, .string t, .int .i64 c, .string m, .bool h, v], .int .i64 n] w fun e w' => BRes (OkNote n ⟨f, t, c, m, h, ss⟩) w e w' := by
  have hA := (Below.refl w.heap.size w).alloc (Nat.le_refl _) (.cells #[.string f, .string t, .int .i64 c, .string m, .bool h, v] 25)
  have HIS := hid (isSet_any v ss n _ (hv.reads.below hA) (by unfold maxLen; omega) (fun i => by have := hsz i; unfold maxLen; omega))
  have HST := hid fun W k (hs : IsSet n ss) => stretch_any v ss f t W k (okSums_asc hs.2.2) hl
  have HV := hid (hv.below hA)
  have HN := hid (Blk.new w 25 #[.string f, .string t, .int .i64 c, .string m, .bool h, v])
  have HA := hid hA
  obtain ⟨a, ca, rfl, _⟩ := hv
  clear hA hsz
  by_cases hway : t.toList = [] ∨ tlt f t = true
  case neg =>
    have HF : Hid (¬ OkNote n ⟨f, t, c, m, h, ss⟩) := fun k => hway k.way
    have h1 : (t.toList == []) = false := by simpa using fun e => hway (.inl e)
    have h2 : tlt f t = false := by cases e : tlt f t; rfl; exact absurd (.inr e) hway
    unfold tlt at h2
    clear hway
    go_enter Try.func31, Try.ntmps31
    go_wp2
    go_ret
    exact BRes.no HF.out HA.out
  by_cases hc : c < 0
  · have HF : Hid (¬ OkNote n ⟨f, t, c, m, h, ss⟩) := fun k => by have := k.count; dsimp only at this; omega
    go_enter Try.func31, Try.ntmps31
    rcases hway with hw | hw
    · have h1 : (t.toList == []) = true := by rw [hw]; rfl
      have et : t = ⟨#[]⟩ := text_eq (hw.trans (by simp [ByteArray.toList_eq]))
      subst et
      clear hw
      go_wp2
      go_ret
      exact BRes.no HF.out HA.out
    · cases h1 : (t.toList == []) with
      | true =>
        have et : t = ⟨#[]⟩ := text_eq ((by simpa using h1 : t.toList = []).trans (by simp [ByteArray.toList_eq]))
        subst et
        clear hw h1
        go_wp2
        go_ret
        exact BRes.no HF.out HA.out
      | false =>
        unfold tlt at hw
        go_wp2
        go_ret
        exact BRes.no HF.out HA.out
  have HWAY := hid hway
  go_enter Try.func31, Try.ntmps31
  go_upto_region 1 with fail
  go_cut [19] from 5 to 53 (fun s19 wx => s19 = .bool false ∧ wx = w.alloc (.cells #[.string f, .string t, .int .i64 c, .string m, .bool h, .slice a ss.length ca] 25))
  case first =>
    rcases hway with hw | hw
    · have et : t = ⟨#[]⟩ := text_eq (hw.trans (by simp [ByteArray.toList_eq]))
      subst et
      clear hw
      go_wp2_with fail
      go_meet
      exact ⟨rfl, rfl⟩
    · cases h1 : (t.toList == []) with
      | true =>
        have et : t = ⟨#[]⟩ := text_eq ((by simpa using h1 : t.toList = []).trans (by simp [ByteArray.toList_eq]))
        subst et
        clear hw h1
        go_wp2_with fail
        go_meet
        exact ⟨rfl, rfl⟩
      | false =>
        unfold tlt at hw
        go_wp2_with fail
        go_meet
        exact ⟨rfl, rfl⟩
  case rest =>
    obtain ⟨rfl, rfl⟩ := hcut
    clear hway
    cases h with
    | false =>
      by_cases h0 : ss.length = 0
      · have HY : Hid (OkNote n ⟨f, t, c, m, false, ss⟩) := ⟨HWAY.out, by dsimp only; omega, .inl ⟨rfl, h0⟩⟩
        have h0' : (ss.length : Int) = 0 := by omega
        have h0b : ((ss.length : Int) == 0) = true := by rw [beq_iff_eq]; exact h0'
        clear h0 h0' HIS HST HV
        generalize ss.length = sl at *
        go_wp2
        go_ret
        exact ⟨true, by simp, ⟨fun _ => HY.out, fun _ => rfl⟩, HA.out⟩
      · have HF : Hid (¬ OkNote n ⟨f, t, c, m, false, ss⟩) := fun k => by
          rcases k.sums with ⟨_, k2⟩ | ⟨k2, _⟩
          · exact h0 k2
          · cases k2
        have h0b : ((ss.length : Int) == 0) = false := by rw [beq_eq_false_iff_ne]; omega
        clear h0
        go_wp2
        go_ret
        exact BRes.no HF.out HA.out
    | true =>
      by_cases hc0 : c = 0
      case neg =>
        have HF : Hid (¬ OkNote n ⟨f, t, c, m, true, ss⟩) := fun k => by
          rcases k.sums with ⟨k2, _⟩ | ⟨_, k2, _⟩
          · cases k2
          · exact hc0 k2
        have hcb : (c == 0) = false := by simpa using hc0
        go_wp2
        go_ret
        exact BRes.no HF.out HA.out
      cases hm : (m.toList == []) with
      | false =>
        have HF : Hid (¬ OkNote n ⟨f, t, c, m, true, ss⟩) := fun k => by
          rcases k.sums with ⟨k2, _⟩ | ⟨_, _, k2, _⟩
          · cases k2
          · dsimp only at k2; rw [k2] at hm; cases hm
        subst hc0
        go_wp2
        go_ret
        exact BRes.no HF.out HA.out
      | true =>
      have em : m = ⟨#[]⟩ := text_eq ((by simpa using hm : m.toList = []).trans (by simp [ByteArray.toList_eq]))
      subst hc0
      subst em
      clear hm
      go_wp2_with fail
      refine HIS.out.mono ?_
      rintro e w1 ⟨b, rfl, hb, rfl⟩
      cases b with
      | false =>
        have HF : Hid (¬ OkNote n ⟨f, t, 0, ⟨#[]⟩, true, ss⟩) := fun k => by
          rcases k.sums with ⟨k2, _⟩ | ⟨_, _, _, k2, _⟩
          · cases k2
          · have := hb.2 k2; cases this
        clear hb
        go_wp2
        go_ret
        exact BRes.no HF.out HA.out
      | true =>
        have HSET := hid (hb.1 rfl)
        clear hb
        have hS0 : (w.alloc (.cells #[.string f, .string t, .int .i64 0, .string ⟨#[]⟩, .bool true, .slice a ss.length ca] 25)).drew.cell? ⟨w.heap.size, 0, none⟩ = some (.string f) ∧ (w.alloc (.cells #[.string f, .string t, .int .i64 0, .string ⟨#[]⟩, .bool true, .slice a ss.length ca] 25)).drew.cell? ⟨w.heap.size, 1, none⟩ = some (.string t) ∧ (w.alloc (.cells #[.string f, .string t, .int .i64 0, .string ⟨#[]⟩, .bool true, .slice a ss.length ca] 25)).drew.cell? ⟨w.heap.size, 5, none⟩ = some (.slice a ss.length ca) := ⟨HN.out.cell 0, HN.out.cell 1, HN.out.cell 5⟩
        have hec := enters_of Try.func40 (by kernel_rfl) rfl
        go_wp2_with fail
        refine wp_region_held (S := fun w' => w'.cell? ⟨w.heap.size, 0, none⟩ = some (.string f) ∧ w'.cell? ⟨w.heap.size, 1, none⟩ = some (.string t) ∧ w'.cell? ⟨w.heap.size, 5, none⟩ = some (.slice a ss.length ca)) (by kernel_rfl) ?_
        change wpAnyH _ _ _ _ _ _ _ _ (World.drew _)
        refine wpAnyH_take (i := 0) (v := .pointer (some ⟨w.heap.size, 5, none⟩)) rfl (by kernel_rfl) (by kernel_rfl) (by kernel_rfl) (fun _ _ _ h => h) (.inl ⟨rfl, fun w' hS => by obtain ⟨s1, s2, s3⟩ := hS; go_simp⟩) hS0 ?_
        refine wpAnyH_take (i := 1) (v := .slice a ss.length ca) rfl (by kernel_rfl) (by kernel_rfl) (by kernel_rfl) (fun _ _ _ h => h) (.inl ⟨rfl, fun w' hS => by obtain ⟨s1, s2, s3⟩ := hS; go_simp⟩) hS0 ?_
        refine wpAnyH_take (i := 2) (v := .pointer (some ⟨w.heap.size, 0, none⟩)) rfl (by kernel_rfl) (by kernel_rfl) (by kernel_rfl) (fun _ _ _ h => h) (.inl ⟨rfl, fun w' hS => by obtain ⟨s1, s2, s3⟩ := hS; go_simp⟩) hS0 ?_
        refine wpAnyH_take (i := 3) (v := .string f) rfl (by kernel_rfl) (by kernel_rfl) (by kernel_rfl) (fun _ _ _ h => h) (.inl ⟨rfl, fun w' hS => by obtain ⟨s1, s2, s3⟩ := hS; go_simp⟩) hS0 ?_
        refine wpAnyH_take (i := 4) (v := .pointer (some ⟨w.heap.size, 1, none⟩)) rfl (by kernel_rfl) (by kernel_rfl) (by kernel_rfl) (fun _ _ _ h => h) (.inl ⟨rfl, fun w' hS => by obtain ⟨s1, s2, s3⟩ := hS; go_simp⟩) hS0 ?_
        refine wpAnyH_take (i := 5) (v := .string t) rfl (by kernel_rfl) (by kernel_rfl) (by kernel_rfl) (fun _ _ _ h => h) (.inl ⟨rfl, fun w' hS => by obtain ⟨s1, s2, s3⟩ := hS; go_simp⟩) hS0 ?_
        refine wpAnyH_take (i := 8) (v := .pointer (some ⟨w.heap.size, 5, none⟩)) rfl (by kernel_rfl) (by kernel_rfl) (by kernel_rfl) (fun _ _ _ h => h) (.inl ⟨rfl, fun w' hS => by obtain ⟨s1, s2, s3⟩ := hS; go_simp⟩) hS0 ?_
        refine wpAnyH_take (i := 9) (v := .slice a ss.length ca) rfl (by kernel_rfl) (by kernel_rfl) (by kernel_rfl) (fun _ _ _ h => h) (.inl ⟨rfl, fun w' hS => by obtain ⟨s1, s2, s3⟩ := hS; go_simp⟩) hS0 ?_
        refine wpAnyH_take (i := 10) (v := .int .i64 (ss.length : Nat)) rfl (by kernel_rfl) (by kernel_rfl) (by kernel_rfl) (fun _ _ _ h => h) (.inl ⟨rfl, fun w' hS => by obtain ⟨s1, s2, s3⟩ := hS; go_simp⟩) hS0 ?_
        refine held_one 6 (by kernel_rfl) (op_calls (f := 40) (args := #[.slice a ss.length ca, .string f, .string t]) rfl rfl (by go_simp) (HST.out _ (HV.out.below (below_drewN (Below.refl _ _) 1)) HSET.out) ?_)
        rintro e w2 ⟨v2, rfl, hr2, hb2⟩
        have hb2' : Below (w.alloc (.cells #[.string f, .string t, .int .i64 0, .string ⟨#[]⟩, .bool true, .slice a ss.length ca] 25)).heap.size (w.alloc (.cells #[.string f, .string t, .int .i64 0, .string ⟨#[]⟩, .bool true, .slice a ss.length ca] 25)) w2 := ⟨hb2.os, hb2.tape, hb2.output, hb2.size, hb2.block⟩
        have N2 := HN.out.below hb2'
        have hS1 : w2.cell? ⟨w.heap.size, 0, none⟩ = some (.string f) ∧ w2.cell? ⟨w.heap.size, 1, none⟩ = some (.string t) ∧ w2.cell? ⟨w.heap.size, 5, none⟩ = some (.slice a ss.length ca) := ⟨N2.cell 0, N2.cell 1, N2.cell 5⟩
        have HB2 := hid (HA.out.trans (hb2'.mono (by simp)))
        obtain ⟨a2, c2, rfl, _⟩ := hr2
        refine ⟨_, rfl, hS1, ?_⟩
        clear hb2 hb2' N2 hS0
        have HLEN : Hid (OkNote n ⟨f, t, 0, ⟨#[]⟩, true, ss⟩ ↔ (fromTo f t ss).length = ss.length) := ⟨fun k => by
          rcases k.sums with ⟨k2, _⟩ | ⟨_, _, _, _, k2⟩
          · cases k2
          · exact k2, fun k => ⟨HWAY.out, by dsimp only; omega, .inr ⟨rfl, rfl, by simp [ByteArray.toList_eq], HSET.out, k⟩⟩⟩
        generalize (fromTo f t ss).length = fl at *
        refine wpAnyH_take (i := 7) (v := .int .i64 (fl : Nat)) rfl (by kernel_rfl) (by kernel_rfl) (by kernel_rfl) (fun _ _ _ h => h) (.inl ⟨rfl, fun w' hS => by obtain ⟨s1, s2, s3⟩ := hS; go_simp⟩) hS1 ?_
        by_cases he : fl = ss.length
        · have heb : ((fl : Int) == (ss.length : Int)) = true := by rw [beq_iff_eq]; omega
          have HY := hid (HLEN.out.2 he)
          clear he
          refine wpAnyH_take (i := 11) (v := .bool true) rfl (by kernel_rfl) (by kernel_rfl) (by kernel_rfl) (fun _ _ _ h => h) (.inl ⟨rfl, fun w' hS => by obtain ⟨s1, s2, s3⟩ := hS; go_simp⟩) hS1 ?_
          refine wpAnyH_take (i := 12) (v := .bool true) rfl (by kernel_rfl) (by kernel_rfl) (by kernel_rfl) (fun _ _ _ h => h) (.inl ⟨rfl, fun w' hS => by obtain ⟨s1, s2, s3⟩ := hS; go_simp⟩) hS1 ?_
          refine wpAnyH_done (by kernel_rfl) ?_ _
          clear hS1
          go_simp
          go_wp2
          go_ret
          exact BRes.yes HY.out HB2.out
        · have heb : ((fl : Int) == (ss.length : Int)) = false := by rw [beq_eq_false_iff_ne]; omega
          have HF : Hid (¬ OkNote n ⟨f, t, 0, ⟨#[]⟩, true, ss⟩) := fun k => he (HLEN.out.1 k)
          clear he
          refine wpAnyH_take (i := 11) (v := .bool false) rfl (by kernel_rfl) (by kernel_rfl) (by kernel_rfl) (fun _ _ _ h => h) (.inl ⟨rfl, fun w' hS => by obtain ⟨s1, s2, s3⟩ := hS; go_simp⟩) hS1 ?_
          refine wpAnyH_take (i := 12) (v := .bool false) rfl (by kernel_rfl) (by kernel_rfl) (by kernel_rfl) (fun _ _ _ h => h) (.inl ⟨rfl, fun w' hS => by obtain ⟨s1, s2, s3⟩ := hS; go_simp⟩) hS1 ?_
          refine wpAnyH_done (by kernel_rfl) ?_ _
          clear hS1
          go_simp
          go_wp2
          go_ret
          exact BRes.no HF.out HB2.out
end Go.Proofs.Ytnpfnafalkejnaa
