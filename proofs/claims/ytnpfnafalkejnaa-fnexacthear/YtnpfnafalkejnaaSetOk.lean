/- spec.l6Set: whether a list is a set. -/
import Derived.Test.YtnpfnafalkejnaaOrder
import Derived.Test.YtnpfnafalkejnaaHeld
namespace Go.Proofs.Ytnpfnafalkejnaa
open Go.RowKit
/-- A list is a set of sums of so many bytes. -/
def IsSet (n : Int) (ts : List ByteArray) : Prop := isW n = true ∧ ts.length ≤ 500 ∧ okSums n ts
set_option maxRecDepth 100000 in
set_option maxHeartbeats 1000000 in
theorem l6Set_any (v : Value) (ts : List ByteArray) (n : Int) (w : World) (hv : Reads w v ts) (hl : ts.length ≤ maxLen) (hsz : ∀ i, (tv ts i).size ≤ maxLen) :
    Calls Try.prog 22 #[v, .int .i64 n] w fun e w' => ∃ b, e = .returned (.bool b) ∧ (b = true ↔ IsSet n ts) ∧ Below w.heap.size w w' := by
  unfold maxLen at hl
  obtain ⟨a, ca, rfl, hca⟩ := hv.form
  have HC : Hid (∀ i, i < ts.length → ∃ b off, a = some ⟨b, off, none⟩ ∧ b < w.heap.size ∧ w.cell? ⟨b, off + i, none⟩ = some (.string (tv ts i))) := hca
  have HSZ := hid hsz
  clear hca hv hsz
  cases hw : isW n with
  | false =>
    have HF : Hid (¬ IsSet n ts) := fun h => by have := h.1; rw [hw] at this; cases this
    go_enter Try.func22, Try.ntmps22
    go_wp2_with (go_at_call 35; refine (l1Width_any _ _).mono ?_; rintro e w ⟨rfl, rfl⟩)
    go_ret
    exact ⟨false, rfl, ⟨fun h => (by cases h), fun h => absurd h HF.out⟩, Below.refl _ _⟩
  | true =>
    by_cases h5 : 500 < ts.length
    · have HF : Hid (¬ IsSet n ts) := fun h => by have := h.2.1; omega
      go_enter Try.func22, Try.ntmps22
      go_wp2_with (go_at_call 35; refine (l1Width_any _ _).mono ?_; rintro e w ⟨rfl, rfl⟩)
      go_ret
      exact ⟨false, rfl, ⟨fun h => (by cases h), fun h => absurd h HF.out⟩, Below.refl _ _⟩
    · have HT : Hid (okSums n ts → IsSet n ts) := fun h => ⟨hw, by omega, h⟩
      go_enter Try.func22, Try.ntmps22
      go_wp2_with (go_at_call 35; refine (l1Width_any _ _).mono ?_; rintro e w ⟨rfl, rfl⟩)
      go_loopw [5] (fun i wr => ∃ k : Nat, k ≤ ts.length ∧ i = .int .i64 k ∧ (∀ j, j < k → okAt n ts j) ∧ Below w.heap.size w wr) (fun i _ => ts.length - (intOf i).toNat)
      case atStart => exact ⟨0, Nat.zero_le _, rfl, fun j hj => absurd hj (by omega), Below.refl _ _⟩
      case round =>
        obtain ⟨k, hk, rfl, hok, hbl⟩ := hrel
        have HOK := hid hok
        have HBL := hid hbl
        clear hok hw
        by_cases hlt : k < ts.length
        · obtain ⟨b1, o1, rfl, hb1, hc1⟩ := HC.out k hlt
          have hd1 := (hbl.cell (p := ⟨b1, o1 + k, none⟩) hb1).trans hc1
          have hz := HSZ.out k
          unfold maxLen at hz
          by_cases hs : ((tv ts k).size : Int) = n
          · cases k with
            | zero =>
              have HA : Hid (okAt n ts 0) := ⟨hs, fun h => absurd h (by omega)⟩
              generalize tv ts 0 = t at *
              rw [Nat.add_zero] at hd1
              clear hc1 hbl
              go_wp2_with fail
              refine wp_region_held (S := fun w' => w'.cell? ⟨b1, o1, none⟩ = some (.string t)) (by kernel_rfl) ?_
              change wpAnyH _ _ _ _ _ _ _ _ (World.drew _)
              have hS0 : wr.drew.cell? ⟨b1, o1, none⟩ = some (.string t) := hd1
              refine wpAnyH_take (i := 0) (v := .slice (some ⟨b1, o1, none⟩) ts.length ca) rfl (by kernel_rfl) (by kernel_rfl) (by kernel_rfl) (fun _ _ _ h => h) (.inl ⟨rfl, fun w' hS => by obtain s1 := hS; go_simp⟩) hS0 ?_
              refine wpAnyH_take (i := 1) (v := .int .i64 (0 : Nat)) rfl (by kernel_rfl) (by kernel_rfl) (by kernel_rfl) (fun _ _ _ h => h) (.inl ⟨rfl, fun w' hS => by obtain s1 := hS; go_simp⟩) hS0 ?_
              refine wpAnyH_take (i := 2) (v := .pointer (some ⟨b1, o1, none⟩)) rfl (by kernel_rfl) (by kernel_rfl) (by kernel_rfl) (fun _ _ _ h => h) (.inl ⟨rfl, fun w' hS => by obtain s1 := hS; go_simp⟩) hS0 ?_
              refine wpAnyH_take (i := 3) (v := .string t) rfl (by kernel_rfl) (by kernel_rfl) (by kernel_rfl) (fun _ _ _ h => h) (.inl ⟨rfl, fun w' hS => by obtain s1 := hS; go_simp⟩) hS0 ?_
              refine wpAnyH_take (i := 4) (v := .int .i64 t.size) rfl (by kernel_rfl) (by kernel_rfl) (by kernel_rfl) (fun _ _ _ h => h) (.inl ⟨rfl, fun w' hS => by obtain s1 := hS; go_simp⟩) hS0 ?_
              refine wpAnyH_take (i := 5) (v := .int .i64 n) rfl (by kernel_rfl) (by kernel_rfl) (by kernel_rfl) (fun _ _ _ h => h) (.inl ⟨rfl, fun w' hS => by obtain s1 := hS; go_simp⟩) hS0 ?_
              refine wpAnyH_take (i := 6) (v := .bool false) rfl (by kernel_rfl) (by kernel_rfl) (by kernel_rfl) (fun _ _ _ h => h) (.inl ⟨rfl, fun w' hS => by obtain s1 := hS; go_simp⟩) hS0 ?_
              refine wpAnyH_take (i := 7) (v := .bool false) rfl (by kernel_rfl) (by kernel_rfl) (by kernel_rfl) (fun _ _ _ h => h) (.inl ⟨rfl, fun w' hS => by obtain s1 := hS; go_simp⟩) hS0 ?_
              refine wpAnyH_take (i := 8) (v := .int .i64 (0 : Nat)) rfl (by kernel_rfl) (by kernel_rfl) (by kernel_rfl) (fun _ _ _ h => h) (.inl ⟨by go_simp, fun w' hS => by obtain s1 := hS; go_simp⟩) hS0 ?_
              refine wpAnyH_take (i := 9) (v := .bool false) rfl (by kernel_rfl) (by kernel_rfl) (by kernel_rfl) (fun _ _ _ h => h) (.inl ⟨by go_simp, fun w' hS => by obtain s1 := hS; go_simp⟩) hS0 ?_
              refine wpAnyH_take (i := 10) (v := .bool false) rfl (by kernel_rfl) (by kernel_rfl) (by kernel_rfl) (fun _ _ _ h => h) (.inl ⟨by go_simp, fun w' hS => by obtain s1 := hS; go_simp⟩) hS0 ?_
              refine wpAnyH_take (i := 11) (v := undef) rfl (by kernel_rfl) (by kernel_rfl) (by kernel_rfl) (fun _ _ _ h => h) (.inr ⟨by first | (go_simp; done) | (go_simp; simp [undef]), rfl⟩) hS0 ?_
              refine wpAnyH_take (i := 12) (v := undef) rfl (by kernel_rfl) (by kernel_rfl) (by kernel_rfl) (fun _ _ _ h => h) (.inr ⟨by first | (go_simp; done) | (go_simp; simp [undef]), rfl⟩) hS0 ?_
              refine wpAnyH_take (i := 13) (v := undef) rfl (by kernel_rfl) (by kernel_rfl) (by kernel_rfl) (fun _ _ _ h => h) (.inr ⟨by first | (go_simp; done) | (go_simp; simp [undef]), rfl⟩) hS0 ?_
              refine wpAnyH_take (i := 14) (v := undef) rfl (by kernel_rfl) (by kernel_rfl) (by kernel_rfl) (fun _ _ _ h => h) (.inr ⟨by first | (go_simp; done) | (go_simp; simp [undef]), rfl⟩) hS0 ?_
              refine wpAnyH_take (i := 15) (v := undef) rfl (by kernel_rfl) (by kernel_rfl) (by kernel_rfl) (fun _ _ _ h => h) (.inr ⟨by first | (go_simp; done) | (go_simp; simp [undef]), rfl⟩) hS0 ?_
              refine wpAnyH_take (i := 16) (v := undef) rfl (by kernel_rfl) (by kernel_rfl) (by kernel_rfl) (fun _ _ _ h => h) (.inr ⟨by first | (go_simp; done) | (go_simp; simp [undef]), rfl⟩) hS0 ?_
              refine wpAnyH_take (i := 17) (v := undef) rfl (by kernel_rfl) (by kernel_rfl) (by kernel_rfl) (fun _ _ _ h => h) (.inr ⟨by first | (go_simp; done) | (go_simp; simp [undef]), rfl⟩) hS0 ?_
              refine wpAnyH_take (i := 18) (v := undef) rfl (by kernel_rfl) (by kernel_rfl) (by kernel_rfl) (fun _ _ _ h => h) (.inr ⟨by first | (go_simp; done) | (go_simp; simp [undef]), rfl⟩) hS0 ?_
              refine wpAnyH_take (i := 19) (v := undef) rfl (by kernel_rfl) (by kernel_rfl) (by kernel_rfl) (fun _ _ _ h => h) (.inr ⟨by first | (go_simp; done) | (go_simp; simp [undef]), rfl⟩) hS0 ?_
              refine wpAnyH_take (i := 20) (v := undef) rfl (by kernel_rfl) (by kernel_rfl) (by kernel_rfl) (fun _ _ _ h => h) (.inr ⟨by first | (go_simp; done) | (go_simp; simp [undef]), rfl⟩) hS0 ?_
              refine wpAnyH_take (i := 21) (v := .bool false) rfl (by kernel_rfl) (by kernel_rfl) (by kernel_rfl) (fun _ _ _ h => h) (.inl ⟨by go_simp, fun w' hS => by obtain s1 := hS; go_simp⟩) hS0 ?_
              refine wpAnyH_take (i := 22) (v := .bool false) rfl (by kernel_rfl) (by kernel_rfl) (by kernel_rfl) (fun _ _ _ h => h) (.inl ⟨rfl, fun w' hS => by obtain s1 := hS; go_simp⟩) hS0 ?_
              refine wpAnyH_done (by kernel_rfl) ?_ _
              go_simp
              go_wp2
              go_roundw
              case rel => exact ⟨1, by omega, by go_num, fun j hj => (Nat.lt_one_iff.1 hj) ▸ HA.out, HBL.out.trans (below_drewN (Below.refl _ _) 1)⟩
              case measure => simp [intOf]; omega
            | succ k =>
              obtain ⟨b2, o2, e2, hb2, hc2⟩ := HC.out k (by omega)
              obtain ⟨rfl, rfl⟩ : b1 = b2 ∧ o1 = o2 := by simpa using e2
              have hd2 := (hbl.cell (p := ⟨b1, o1 + k, none⟩) hb1).trans hc2
              cases hp : tlt (tv ts k) (tv ts (k + 1)) with
              | true =>
                have HA : Hid (okAt n ts (k + 1)) := ⟨hs, fun h => hp⟩
                unfold tlt at hp
                generalize tv ts (k + 1) = t at *
                generalize tv ts k = p at *
                clear hc1 hbl hc2
                have hk0 : ¬ ((k : Int) + 1 < 0) := by omega
                have hk2 : ¬ (ts.length ≤ k) := by omega
                have hk3 : ¬ (ts.length ≤ k + 1) := by omega
                have hwk : IntKind.i64.wrap (k : Int) = (k : Int) := by rw [IntKind.wrap_i64]; omega
                go_wp2_with fail
                refine wp_region_held (S := fun w' => w'.cell? ⟨b1, o1 + (k + 1), none⟩ = some (.string t) ∧ w'.cell? ⟨b1, o1 + k, none⟩ = some (.string p)) (by kernel_rfl) ?_
                change wpAnyH _ _ _ _ _ _ _ _ (World.drew _)
                have hS0 : wr.drew.cell? ⟨b1, o1 + (k + 1), none⟩ = some (.string t) ∧ wr.drew.cell? ⟨b1, o1 + k, none⟩ = some (.string p) := ⟨hd1, hd2⟩
                refine wpAnyH_take (i := 0) (v := .slice (some ⟨b1, o1, none⟩) ts.length ca) rfl (by kernel_rfl) (by kernel_rfl) (by kernel_rfl) (fun _ _ _ h => h) (.inl ⟨rfl, fun w' hS => by obtain ⟨s1, s2⟩ := hS; go_simp⟩) hS0 ?_
                refine wpAnyH_take (i := 1) (v := .int .i64 ((k + 1) : Nat)) rfl (by kernel_rfl) (by kernel_rfl) (by kernel_rfl) (fun _ _ _ h => h) (.inl ⟨rfl, fun w' hS => by obtain ⟨s1, s2⟩ := hS; go_simp⟩) hS0 ?_
                refine wpAnyH_take (i := 2) (v := .pointer (some ⟨b1, o1 + (k + 1), none⟩)) rfl (by kernel_rfl) (by kernel_rfl) (by kernel_rfl) (fun _ _ _ h => h) (.inl ⟨rfl, fun w' hS => by obtain ⟨s1, s2⟩ := hS; go_simp⟩) hS0 ?_
                refine wpAnyH_take (i := 3) (v := .string t) rfl (by kernel_rfl) (by kernel_rfl) (by kernel_rfl) (fun _ _ _ h => h) (.inl ⟨rfl, fun w' hS => by obtain ⟨s1, s2⟩ := hS; go_simp⟩) hS0 ?_
                refine wpAnyH_take (i := 4) (v := .int .i64 t.size) rfl (by kernel_rfl) (by kernel_rfl) (by kernel_rfl) (fun _ _ _ h => h) (.inl ⟨rfl, fun w' hS => by obtain ⟨s1, s2⟩ := hS; go_simp⟩) hS0 ?_
                refine wpAnyH_take (i := 5) (v := .int .i64 n) rfl (by kernel_rfl) (by kernel_rfl) (by kernel_rfl) (fun _ _ _ h => h) (.inl ⟨rfl, fun w' hS => by obtain ⟨s1, s2⟩ := hS; go_simp⟩) hS0 ?_
                refine wpAnyH_take (i := 6) (v := .bool false) rfl (by kernel_rfl) (by kernel_rfl) (by kernel_rfl) (fun _ _ _ h => h) (.inl ⟨rfl, fun w' hS => by obtain ⟨s1, s2⟩ := hS; go_simp⟩) hS0 ?_
                refine wpAnyH_take (i := 7) (v := .bool false) rfl (by kernel_rfl) (by kernel_rfl) (by kernel_rfl) (fun _ _ _ h => h) (.inl ⟨rfl, fun w' hS => by obtain ⟨s1, s2⟩ := hS; go_simp⟩) hS0 ?_
                refine wpAnyH_take (i := 8) (v := .int .i64 (k + 1 : Nat)) rfl (by kernel_rfl) (by kernel_rfl) (by kernel_rfl) (fun _ _ _ h => h) (.inl ⟨by go_simp, fun w' hS => by obtain ⟨s1, s2⟩ := hS; go_simp⟩) hS0 ?_
                refine wpAnyH_take (i := 9) (v := .bool true) rfl (by kernel_rfl) (by kernel_rfl) (by kernel_rfl) (fun _ _ _ h => h) (.inl ⟨by go_simp, fun w' hS => by obtain ⟨s1, s2⟩ := hS; go_simp⟩) hS0 ?_
                refine wpAnyH_take (i := 10) (v := .bool true) rfl (by kernel_rfl) (by kernel_rfl) (by kernel_rfl) (fun _ _ _ h => h) (.inl ⟨by go_simp, fun w' hS => by obtain ⟨s1, s2⟩ := hS; go_simp⟩) hS0 ?_
                refine wpAnyH_take (i := 11) (v := .slice (some ⟨b1, o1, none⟩) ts.length ca) rfl (by kernel_rfl) (by kernel_rfl) (by kernel_rfl) (fun _ _ _ h => h) (.inl ⟨by go_simp, fun w' hS => by obtain ⟨s1, s2⟩ := hS; go_simp⟩) hS0 ?_
                refine wpAnyH_take (i := 12) (v := .int .i64 (k + 1 : Nat)) rfl (by kernel_rfl) (by kernel_rfl) (by kernel_rfl) (fun _ _ _ h => h) (.inl ⟨by go_simp, fun w' hS => by obtain ⟨s1, s2⟩ := hS; go_simp⟩) hS0 ?_
                refine wpAnyH_take (i := 13) (v := .int .i64 (k : Nat)) rfl (by kernel_rfl) (by kernel_rfl) (by kernel_rfl) (fun _ _ _ h => h) (.inl ⟨by go_simp, fun w' hS => by obtain ⟨s1, s2⟩ := hS; go_simp⟩) hS0 ?_
                refine wpAnyH_take (i := 14) (v := .pointer (some ⟨b1, o1 + k, none⟩)) rfl (by kernel_rfl) (by kernel_rfl) (by kernel_rfl) (fun _ _ _ h => h) (.inl ⟨by go_simp, fun w' hS => by obtain ⟨s1, s2⟩ := hS; go_simp⟩) hS0 ?_
                refine wpAnyH_take (i := 15) (v := .string p) rfl (by kernel_rfl) (by kernel_rfl) (by kernel_rfl) (fun _ _ _ h => h) (.inl ⟨by go_simp, fun w' hS => by obtain ⟨s1, s2⟩ := hS; go_simp⟩) hS0 ?_
                refine wpAnyH_take (i := 16) (v := .slice (some ⟨b1, o1, none⟩) ts.length ca) rfl (by kernel_rfl) (by kernel_rfl) (by kernel_rfl) (fun _ _ _ h => h) (.inl ⟨by go_simp, fun w' hS => by obtain ⟨s1, s2⟩ := hS; go_simp⟩) hS0 ?_
                refine wpAnyH_take (i := 17) (v := .int .i64 (k + 1 : Nat)) rfl (by kernel_rfl) (by kernel_rfl) (by kernel_rfl) (fun _ _ _ h => h) (.inl ⟨by go_simp, fun w' hS => by obtain ⟨s1, s2⟩ := hS; go_simp⟩) hS0 ?_
                refine wpAnyH_take (i := 18) (v := .pointer (some ⟨b1, o1 + (k + 1), none⟩)) rfl (by kernel_rfl) (by kernel_rfl) (by kernel_rfl) (fun _ _ _ h => h) (.inl ⟨by go_simp, fun w' hS => by obtain ⟨s1, s2⟩ := hS; go_simp⟩) hS0 ?_
                refine wpAnyH_take (i := 19) (v := .string t) rfl (by kernel_rfl) (by kernel_rfl) (by kernel_rfl) (fun _ _ _ h => h) (.inl ⟨by go_simp, fun w' hS => by obtain ⟨s1, s2⟩ := hS; go_simp⟩) hS0 ?_
                refine wpAnyH_take (i := 20) (v := .bool false) rfl (by kernel_rfl) (by kernel_rfl) (by kernel_rfl) (fun _ _ _ h => h) (.inl ⟨by go_simp, fun w' hS => by obtain ⟨s1, s2⟩ := hS; go_simp⟩) hS0 ?_
                refine wpAnyH_take (i := 21) (v := .bool false) rfl (by kernel_rfl) (by kernel_rfl) (by kernel_rfl) (fun _ _ _ h => h) (.inl ⟨by go_simp, fun w' hS => by obtain ⟨s1, s2⟩ := hS; go_simp⟩) hS0 ?_
                refine wpAnyH_take (i := 22) (v := .bool false) rfl (by kernel_rfl) (by kernel_rfl) (by kernel_rfl) (fun _ _ _ h => h) (.inl ⟨rfl, fun w' hS => by obtain ⟨s1, s2⟩ := hS; go_simp⟩) hS0 ?_
                refine wpAnyH_done (by kernel_rfl) ?_ _
                go_simp
                go_wp2
                go_roundw
                case rel => exact ⟨k + 1 + 1, by omega, by go_num, fun j hj => (Nat.lt_or_eq_of_le (Nat.le_of_lt_succ hj)).elim (HOK.out j) (fun e => e ▸ HA.out), HBL.out.trans (below_drewN (Below.refl _ _) 1)⟩
                case measure => simp [intOf]; omega
              | false =>
                have HA : Hid (¬ okAt n ts (k + 1)) := fun h => by have := h.2 (by omega); rw [Nat.add_sub_cancel, hp] at this; cases this
                unfold tlt at hp
                generalize tv ts (k + 1) = t at *
                generalize tv ts k = p at *
                clear hc1 hbl hc2
                have hk0 : ¬ ((k : Int) + 1 < 0) := by omega
                have hk2 : ¬ (ts.length ≤ k) := by omega
                have hk3 : ¬ (ts.length ≤ k + 1) := by omega
                have hwk : IntKind.i64.wrap (k : Int) = (k : Int) := by rw [IntKind.wrap_i64]; omega
                go_wp2_with fail
                refine wp_region_held (S := fun w' => w'.cell? ⟨b1, o1 + (k + 1), none⟩ = some (.string t) ∧ w'.cell? ⟨b1, o1 + k, none⟩ = some (.string p)) (by kernel_rfl) ?_
                change wpAnyH _ _ _ _ _ _ _ _ (World.drew _)
                have hS0 : wr.drew.cell? ⟨b1, o1 + (k + 1), none⟩ = some (.string t) ∧ wr.drew.cell? ⟨b1, o1 + k, none⟩ = some (.string p) := ⟨hd1, hd2⟩
                refine wpAnyH_take (i := 0) (v := .slice (some ⟨b1, o1, none⟩) ts.length ca) rfl (by kernel_rfl) (by kernel_rfl) (by kernel_rfl) (fun _ _ _ h => h) (.inl ⟨rfl, fun w' hS => by obtain ⟨s1, s2⟩ := hS; go_simp⟩) hS0 ?_
                refine wpAnyH_take (i := 1) (v := .int .i64 ((k + 1) : Nat)) rfl (by kernel_rfl) (by kernel_rfl) (by kernel_rfl) (fun _ _ _ h => h) (.inl ⟨rfl, fun w' hS => by obtain ⟨s1, s2⟩ := hS; go_simp⟩) hS0 ?_
                refine wpAnyH_take (i := 2) (v := .pointer (some ⟨b1, o1 + (k + 1), none⟩)) rfl (by kernel_rfl) (by kernel_rfl) (by kernel_rfl) (fun _ _ _ h => h) (.inl ⟨rfl, fun w' hS => by obtain ⟨s1, s2⟩ := hS; go_simp⟩) hS0 ?_
                refine wpAnyH_take (i := 3) (v := .string t) rfl (by kernel_rfl) (by kernel_rfl) (by kernel_rfl) (fun _ _ _ h => h) (.inl ⟨rfl, fun w' hS => by obtain ⟨s1, s2⟩ := hS; go_simp⟩) hS0 ?_
                refine wpAnyH_take (i := 4) (v := .int .i64 t.size) rfl (by kernel_rfl) (by kernel_rfl) (by kernel_rfl) (fun _ _ _ h => h) (.inl ⟨rfl, fun w' hS => by obtain ⟨s1, s2⟩ := hS; go_simp⟩) hS0 ?_
                refine wpAnyH_take (i := 5) (v := .int .i64 n) rfl (by kernel_rfl) (by kernel_rfl) (by kernel_rfl) (fun _ _ _ h => h) (.inl ⟨rfl, fun w' hS => by obtain ⟨s1, s2⟩ := hS; go_simp⟩) hS0 ?_
                refine wpAnyH_take (i := 6) (v := .bool false) rfl (by kernel_rfl) (by kernel_rfl) (by kernel_rfl) (fun _ _ _ h => h) (.inl ⟨rfl, fun w' hS => by obtain ⟨s1, s2⟩ := hS; go_simp⟩) hS0 ?_
                refine wpAnyH_take (i := 7) (v := .bool false) rfl (by kernel_rfl) (by kernel_rfl) (by kernel_rfl) (fun _ _ _ h => h) (.inl ⟨rfl, fun w' hS => by obtain ⟨s1, s2⟩ := hS; go_simp⟩) hS0 ?_
                refine wpAnyH_take (i := 8) (v := .int .i64 (k + 1 : Nat)) rfl (by kernel_rfl) (by kernel_rfl) (by kernel_rfl) (fun _ _ _ h => h) (.inl ⟨by go_simp, fun w' hS => by obtain ⟨s1, s2⟩ := hS; go_simp⟩) hS0 ?_
                refine wpAnyH_take (i := 9) (v := .bool true) rfl (by kernel_rfl) (by kernel_rfl) (by kernel_rfl) (fun _ _ _ h => h) (.inl ⟨by go_simp, fun w' hS => by obtain ⟨s1, s2⟩ := hS; go_simp⟩) hS0 ?_
                refine wpAnyH_take (i := 10) (v := .bool true) rfl (by kernel_rfl) (by kernel_rfl) (by kernel_rfl) (fun _ _ _ h => h) (.inl ⟨by go_simp, fun w' hS => by obtain ⟨s1, s2⟩ := hS; go_simp⟩) hS0 ?_
                refine wpAnyH_take (i := 11) (v := .slice (some ⟨b1, o1, none⟩) ts.length ca) rfl (by kernel_rfl) (by kernel_rfl) (by kernel_rfl) (fun _ _ _ h => h) (.inl ⟨by go_simp, fun w' hS => by obtain ⟨s1, s2⟩ := hS; go_simp⟩) hS0 ?_
                refine wpAnyH_take (i := 12) (v := .int .i64 (k + 1 : Nat)) rfl (by kernel_rfl) (by kernel_rfl) (by kernel_rfl) (fun _ _ _ h => h) (.inl ⟨by go_simp, fun w' hS => by obtain ⟨s1, s2⟩ := hS; go_simp⟩) hS0 ?_
                refine wpAnyH_take (i := 13) (v := .int .i64 (k : Nat)) rfl (by kernel_rfl) (by kernel_rfl) (by kernel_rfl) (fun _ _ _ h => h) (.inl ⟨by go_simp, fun w' hS => by obtain ⟨s1, s2⟩ := hS; go_simp⟩) hS0 ?_
                refine wpAnyH_take (i := 14) (v := .pointer (some ⟨b1, o1 + k, none⟩)) rfl (by kernel_rfl) (by kernel_rfl) (by kernel_rfl) (fun _ _ _ h => h) (.inl ⟨by go_simp, fun w' hS => by obtain ⟨s1, s2⟩ := hS; go_simp⟩) hS0 ?_
                refine wpAnyH_take (i := 15) (v := .string p) rfl (by kernel_rfl) (by kernel_rfl) (by kernel_rfl) (fun _ _ _ h => h) (.inl ⟨by go_simp, fun w' hS => by obtain ⟨s1, s2⟩ := hS; go_simp⟩) hS0 ?_
                refine wpAnyH_take (i := 16) (v := .slice (some ⟨b1, o1, none⟩) ts.length ca) rfl (by kernel_rfl) (by kernel_rfl) (by kernel_rfl) (fun _ _ _ h => h) (.inl ⟨by go_simp, fun w' hS => by obtain ⟨s1, s2⟩ := hS; go_simp⟩) hS0 ?_
                refine wpAnyH_take (i := 17) (v := .int .i64 (k + 1 : Nat)) rfl (by kernel_rfl) (by kernel_rfl) (by kernel_rfl) (fun _ _ _ h => h) (.inl ⟨by go_simp, fun w' hS => by obtain ⟨s1, s2⟩ := hS; go_simp⟩) hS0 ?_
                refine wpAnyH_take (i := 18) (v := .pointer (some ⟨b1, o1 + (k + 1), none⟩)) rfl (by kernel_rfl) (by kernel_rfl) (by kernel_rfl) (fun _ _ _ h => h) (.inl ⟨by go_simp, fun w' hS => by obtain ⟨s1, s2⟩ := hS; go_simp⟩) hS0 ?_
                refine wpAnyH_take (i := 19) (v := .string t) rfl (by kernel_rfl) (by kernel_rfl) (by kernel_rfl) (fun _ _ _ h => h) (.inl ⟨by go_simp, fun w' hS => by obtain ⟨s1, s2⟩ := hS; go_simp⟩) hS0 ?_
                refine wpAnyH_take (i := 20) (v := .bool true) rfl (by kernel_rfl) (by kernel_rfl) (by kernel_rfl) (fun _ _ _ h => h) (.inl ⟨by go_simp, fun w' hS => by obtain ⟨s1, s2⟩ := hS; go_simp⟩) hS0 ?_
                refine wpAnyH_take (i := 21) (v := .bool true) rfl (by kernel_rfl) (by kernel_rfl) (by kernel_rfl) (fun _ _ _ h => h) (.inl ⟨by go_simp, fun w' hS => by obtain ⟨s1, s2⟩ := hS; go_simp⟩) hS0 ?_
                refine wpAnyH_take (i := 22) (v := .bool true) rfl (by kernel_rfl) (by kernel_rfl) (by kernel_rfl) (fun _ _ _ h => h) (.inl ⟨rfl, fun w' hS => by obtain ⟨s1, s2⟩ := hS; go_simp⟩) hS0 ?_
                refine wpAnyH_done (by kernel_rfl) ?_ _
                go_simp
                go_wp2
                go_ret
                exact ⟨false, rfl, ⟨fun h => (by cases h), fun h => absurd (h.2.2 _ hlt) HA.out⟩, HBL.out.trans (below_drewN (Below.refl _ _) 1)⟩
          · have HA : Hid (¬ okAt n ts k) := fun h => hs h.1
            generalize tv ts k = t at *
            clear hc1 hbl
            go_wp2_with fail
            refine wp_region_held (S := fun w' => w'.cell? ⟨b1, o1 + k, none⟩ = some (.string t)) (by kernel_rfl) ?_
            change wpAnyH _ _ _ _ _ _ _ _ (World.drew _)
            have hS0 : wr.drew.cell? ⟨b1, o1 + k, none⟩ = some (.string t) := hd1
            refine wpAnyH_take (i := 0) (v := .slice (some ⟨b1, o1, none⟩) ts.length ca) rfl (by kernel_rfl) (by kernel_rfl) (by kernel_rfl) (fun _ _ _ h => h) (.inl ⟨rfl, fun w' hS => by obtain s1 := hS; go_simp⟩) hS0 ?_
            refine wpAnyH_take (i := 1) (v := .int .i64 (k : Nat)) rfl (by kernel_rfl) (by kernel_rfl) (by kernel_rfl) (fun _ _ _ h => h) (.inl ⟨rfl, fun w' hS => by obtain s1 := hS; go_simp⟩) hS0 ?_
            refine wpAnyH_take (i := 2) (v := .pointer (some ⟨b1, o1 + k, none⟩)) rfl (by kernel_rfl) (by kernel_rfl) (by kernel_rfl) (fun _ _ _ h => h) (.inl ⟨rfl, fun w' hS => by obtain s1 := hS; go_simp⟩) hS0 ?_
            refine wpAnyH_take (i := 3) (v := .string t) rfl (by kernel_rfl) (by kernel_rfl) (by kernel_rfl) (fun _ _ _ h => h) (.inl ⟨rfl, fun w' hS => by obtain s1 := hS; go_simp⟩) hS0 ?_
            refine wpAnyH_take (i := 4) (v := .int .i64 t.size) rfl (by kernel_rfl) (by kernel_rfl) (by kernel_rfl) (fun _ _ _ h => h) (.inl ⟨rfl, fun w' hS => by obtain s1 := hS; go_simp⟩) hS0 ?_
            refine wpAnyH_take (i := 5) (v := .int .i64 n) rfl (by kernel_rfl) (by kernel_rfl) (by kernel_rfl) (fun _ _ _ h => h) (.inl ⟨rfl, fun w' hS => by obtain s1 := hS; go_simp⟩) hS0 ?_
            refine wpAnyH_take (i := 6) (v := .bool true) rfl (by kernel_rfl) (by kernel_rfl) (by kernel_rfl) (fun _ _ _ h => h) (.inl ⟨rfl, fun w' hS => by obtain s1 := hS; go_simp⟩) hS0 ?_
            refine wpAnyH_take (i := 7) (v := .bool true) rfl (by kernel_rfl) (by kernel_rfl) (by kernel_rfl) (fun _ _ _ h => h) (.inl ⟨rfl, fun w' hS => by obtain s1 := hS; go_simp⟩) hS0 ?_
            refine wpAnyH_take (i := 8) (v := undef) rfl (by kernel_rfl) (by kernel_rfl) (by kernel_rfl) (fun _ _ _ h => h) (.inr ⟨by first | (go_simp; done) | (go_simp; simp [undef]), rfl⟩) hS0 ?_
            refine wpAnyH_take (i := 9) (v := undef) rfl (by kernel_rfl) (by kernel_rfl) (by kernel_rfl) (fun _ _ _ h => h) (.inr ⟨by first | (go_simp; done) | (go_simp; simp [undef]), rfl⟩) hS0 ?_
            refine wpAnyH_take (i := 10) (v := undef) rfl (by kernel_rfl) (by kernel_rfl) (by kernel_rfl) (fun _ _ _ h => h) (.inr ⟨by first | (go_simp; done) | (go_simp; simp [undef]), rfl⟩) hS0 ?_
            refine wpAnyH_take (i := 11) (v := undef) rfl (by kernel_rfl) (by kernel_rfl) (by kernel_rfl) (fun _ _ _ h => h) (.inr ⟨by first | (go_simp; done) | (go_simp; simp [undef]), rfl⟩) hS0 ?_
            refine wpAnyH_take (i := 12) (v := undef) rfl (by kernel_rfl) (by kernel_rfl) (by kernel_rfl) (fun _ _ _ h => h) (.inr ⟨by first | (go_simp; done) | (go_simp; simp [undef]), rfl⟩) hS0 ?_
            refine wpAnyH_take (i := 13) (v := undef) rfl (by kernel_rfl) (by kernel_rfl) (by kernel_rfl) (fun _ _ _ h => h) (.inr ⟨by first | (go_simp; done) | (go_simp; simp [undef]), rfl⟩) hS0 ?_
            refine wpAnyH_take (i := 14) (v := undef) rfl (by kernel_rfl) (by kernel_rfl) (by kernel_rfl) (fun _ _ _ h => h) (.inr ⟨by first | (go_simp; done) | (go_simp; simp [undef]), rfl⟩) hS0 ?_
            refine wpAnyH_take (i := 15) (v := undef) rfl (by kernel_rfl) (by kernel_rfl) (by kernel_rfl) (fun _ _ _ h => h) (.inr ⟨by first | (go_simp; done) | (go_simp; simp [undef]), rfl⟩) hS0 ?_
            refine wpAnyH_take (i := 16) (v := undef) rfl (by kernel_rfl) (by kernel_rfl) (by kernel_rfl) (fun _ _ _ h => h) (.inr ⟨by first | (go_simp; done) | (go_simp; simp [undef]), rfl⟩) hS0 ?_
            refine wpAnyH_take (i := 17) (v := undef) rfl (by kernel_rfl) (by kernel_rfl) (by kernel_rfl) (fun _ _ _ h => h) (.inr ⟨by first | (go_simp; done) | (go_simp; simp [undef]), rfl⟩) hS0 ?_
            refine wpAnyH_take (i := 18) (v := undef) rfl (by kernel_rfl) (by kernel_rfl) (by kernel_rfl) (fun _ _ _ h => h) (.inr ⟨by first | (go_simp; done) | (go_simp; simp [undef]), rfl⟩) hS0 ?_
            refine wpAnyH_take (i := 19) (v := undef) rfl (by kernel_rfl) (by kernel_rfl) (by kernel_rfl) (fun _ _ _ h => h) (.inr ⟨by first | (go_simp; done) | (go_simp; simp [undef]), rfl⟩) hS0 ?_
            refine wpAnyH_take (i := 20) (v := undef) rfl (by kernel_rfl) (by kernel_rfl) (by kernel_rfl) (fun _ _ _ h => h) (.inr ⟨by first | (go_simp; done) | (go_simp; simp [undef]), rfl⟩) hS0 ?_
            refine wpAnyH_take (i := 21) (v := undef) rfl (by kernel_rfl) (by kernel_rfl) (by kernel_rfl) (fun _ _ _ h => h) (.inr ⟨by first | (go_simp; done) | (go_simp; simp [undef]), rfl⟩) hS0 ?_
            refine wpAnyH_take (i := 22) (v := .bool true) rfl (by kernel_rfl) (by kernel_rfl) (by kernel_rfl) (fun _ _ _ h => h) (.inl ⟨rfl, fun w' hS => by obtain s1 := hS; go_simp⟩) hS0 ?_
            refine wpAnyH_done (by kernel_rfl) ?_ _
            go_simp
            go_wp2
            go_ret
            exact ⟨false, rfl, ⟨fun h => (by cases h), fun h => absurd (h.2.2 _ hlt) HA.out⟩, HBL.out.trans (below_drewN (Below.refl _ _) 1)⟩
        · obtain rfl : k = ts.length := by omega
          go_wp2
          go_ret
          exact ⟨true, rfl, ⟨fun _ => HT.out HOK.out, fun _ => rfl⟩, HBL.out⟩
end Go.Proofs.Ytnpfnafalkejnaa
