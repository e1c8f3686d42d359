/- markStringS turns the row's own block alone. -/
import Derived.Test.YtlnkhbnbcmllaaaGreatListLaw
namespace Go.Proofs.YtlnkhbnbcmllaaaGreat
open Go.RowKit
theorem grown_same {A B C : World} {o : Option Nat} (h : A.grownBy B o) (k : B.grownBy C o) : A.grownBy C o :=
  ⟨k.os.trans h.os, k.tape.trans h.tape, k.output.trans h.output, Nat.le_trans h.size k.size, fun j hj hne => (k.block j (Nat.lt_of_lt_of_le hj h.size) hne).trans (h.block j hj hne)⟩
theorem grown_below' {A B : World} {o : Option Nat} (h : Below A.heap.size A B) : A.grownBy B o := ⟨h.os, h.tape, h.output, h.size, fun k hk _ => h.block k hk⟩
theorem grown_refl (A : World) (o : Option Nat) : A.grownBy A o := ⟨rfl, rfl, rfl, Nat.le_refl _, fun _ _ _ => rfl⟩
set_option maxRecDepth 100000 in
set_option maxHeartbeats 400000 in
theorem markStringS_grown (v : Value) (k base : Nat) (xs : List ByteArray) (w : World) (hown : w.ownsRow base 9 1 v xs.length (xs.map Value.string)) (h1 : 1 ≤ k) (h2 : k + xs.length ≤ 4400000) :
    Calls Tryz.prog 34 #[v, .int .i64 k] w fun e w' => e = .returned (.int .i64 ((k + xs.length : Nat) : Int)) ∧ w'.ownsRow base 9 1 v xs.length ((marks k xs.length).map Value.string) ∧ w.grownBy w' v.ownBlock := by
  obtain ⟨a, cap, rfl, ha⟩ := row_form hown
  go_enter Tryz.func34, Tryz.ntmps34
  go_wp2
  go_loopw [1, 5] (fun x i wr => ∃ m : Nat, m ≤ xs.length ∧ i = .int .i64 m ∧ x = .int .i64 ((k + m : Nat) : Int) ∧ wr.ownsRow base 9 1 (.slice a xs.length cap) xs.length (mixed k m xs) ∧ w.grownBy wr (Value.slice a xs.length cap).ownBlock) (fun _ i _ => xs.length - (intOf i).toNat)
  case atStart => exact ⟨0, Nat.zero_le _, rfl, rfl, by simpa [mixed, marks] using hown, grown_refl _ _⟩
  case round =>
    obtain ⟨m, hm, rfl, rfl, hr, hb⟩ := hrel
    by_cases hlt : m < xs.length
    · obtain ⟨g, rfl, hg⟩ := ha (by omega)
      have HM := fun W => markText_any (k + m) W (by omega) (by omega)
      have HX := mixed_set k m xs hlt
      have HG := mixed_get k m xs hlt
      obtain ⟨j, hj⟩ : ∃ j, j = k + m := ⟨_, rfl⟩
      rw [← hj] at HM HX ⊢
      have HJ : Hid (j = k + m) := hj
      have hj2 : j ≤ 4399999 := by omega
      have HB := hid hb
      clear hj ha hown hb
      generalize markB j = q at *
      have HQ : Hid (∀ W : World, Calls Tryz.prog 64 #[.int .i64 j] W fun e w' => e = .returned (.string q) ∧ Below W.heap.size W w') := HM
      have HXX : Hid ((mixed k m xs).set m (.string q) = mixed k (m + 1) xs) := HX
      have HGG : Hid ((mixed k m xs)[m]? = some (.string (xs.getD m ByteArray.empty))) := HG
      clear HM HX HG
      go_wp2_with (go_at_call 64; refine (HQ.out _).mono ?_; rintro e w1 ⟨rfl, hb1⟩; have hr1 := Below.row hb1 hr; have hc1 := (hr1.cellAt m (by omega)).trans HGG.out; have hf1 := hr1.frozenAt m)
      have hst := (hr1.stored m (.string q)).1
      rw [HXX.out] at hst
      refine ⟨⟨m + 1, by omega, by go_num, by rw [HJ.out]; go_num, hst, ?_⟩, by simp [intOf]; omega⟩
      exact grown_same (grown_same HB.out (grown_below' hb1)) (grownBy_setCellAt w1 g m (.string q))
    · obtain rfl : m = xs.length := by omega
      have HB := hid hb
      clear hb
      go_wp2
      go_ret
      refine ⟨rfl, ?_, HB.out⟩
      simpa [mixed] using hr
end Go.Proofs.YtlnkhbnbcmllaaaGreat
