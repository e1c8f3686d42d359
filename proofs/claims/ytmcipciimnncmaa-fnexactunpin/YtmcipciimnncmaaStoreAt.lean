/- spec.l4At: the place of the item with a sum. -/
import Derived.Test.YtmcipciimnncmaaValidSpec
import Derived.Test.YtmcipciimnncmaaOpenStore
namespace Go.Proofs.Ytmcipciimnncmaa
open Go.RowKit
/-- Where a sum is found. -/
def AtR (wd : Int) (its : Itms) (s : ByteArray) (r : Int) : Prop := (r = -1 ∧ ∀ i, i < its.length → sumX wd (itx its i) ≠ s) ∨ ∃ i : Nat, i < its.length ∧ r = (i : Int) ∧ sumX wd (itx its i) = s
set_option maxRecDepth 100000 in
set_option maxHeartbeats 1000000 in
theorem l4At_any (wd room : Int) (vi vp : Value) (its : Itms) (s : ByteArray) (w : World) (hi : RdI w vi its) (hp : ∃ a l c, vp = .slice a l c) (hl : its.length ≤ 1048576) (hsz : ∀ i, (itx its i).size ≤ 1048576) :
    Calls Try.prog 44 #[.agg #[.int .i64 wd, .int .i64 room, vi, vp], .string s] w fun e w' => ∃ r, e = .returned (.int .i64 r) ∧ AtR wd its s r ∧ Below w.heap.size w w' := by
  obtain ⟨ap, lp, cp, rfl⟩ := hp
  obtain ⟨ai, ci, rfl, hci⟩ := hi
  have hA := (Below.refl w.heap.size w).alloc (Nat.le_refl _) (.cells #[.int .i64 wd, .int .i64 room, .slice ai its.length ci, .slice ap lp cp] 30)
  have HN := hid (Blk.new w 30 #[.int .i64 wd, .int .i64 room, .slice ai its.length ci, .slice ap lp cp])
  have HRI := hid (show RdI w (.slice ai its.length ci) its from ⟨ai, ci, rfl, hci⟩)
  have HA := hid hA
  have HSZ := hid hsz
  have HS := hid fun (t : ByteArray) (ht : t.size ≤ 1048576) W => specSum_any t wd W (by unfold maxLen; omega)
  have hec := enters_of Try.func30 (by kernel_rfl) rfl
  clear hci hA hsz
  go_enter Try.func44, Try.ntmps44
  go_wp2
  go_loopw [5] (fun i wr => ∃ k : Nat, k ≤ its.length ∧ i = .int .i64 k ∧ (∀ j, j < k → sumX wd (itx its j) ≠ s) ∧ Blk wr w.heap.size 30 #[.int .i64 wd, .int .i64 room, .slice ai its.length ci, .slice ap lp cp] ∧ Below w.heap.size w wr) (fun i _ => its.length - (intOf i).toNat)
  case atStart => exact ⟨0, Nat.zero_le _, rfl, fun j hj => absurd hj (by omega), HN.out, HA.out⟩
  case round =>
    obtain ⟨k, hk, rfl, hno, hbx, hb⟩ := hrel
    have x0 : wr.cell? ⟨w.heap.size, 0, none⟩ = some (.int .i64 wd) := hbx.cell 0
    have x2 : wr.cell? ⟨w.heap.size, 2, none⟩ = some (.slice ai its.length ci) := hbx.cell 2
    have HBX := hid hbx
    have HNO := hid hno
    have HB := hid hb
    clear hno
    by_cases hlt : k < its.length
    · obtain ⟨a', c', e', hc⟩ := HRI.out.below hb
      cases e'
      obtain ⟨b, o, rfl, hbk, h3, _⟩ := hc k hlt
      have HSk : Hid (∀ W, Calls Try.prog 30 #[.string (itx its k), .int .i64 wd] W fun e w' => e = .returned (.string (sumX wd (itx its k))) ∧ Below W.heap.size W w') := fun W => HS.out (itx its k) (HSZ.out k) W
      generalize hsx : sumX wd (itx its k) = x at *
      have HSX := hid hsx
      generalize htx : itx its k = t at *
      have HTX := hid htx
      clear hc hbx hb hsx htx
      have hS0 : wr.drew.cell? ⟨w.heap.size, 0, none⟩ = some (.int .i64 wd) ∧ wr.drew.cell? ⟨w.heap.size, 2, none⟩ = some (.slice (some ⟨b, o, none⟩) its.length ci) ∧ wr.drew.cell? ⟨b, o + k * 2, none⟩ = some (.string t) := ⟨x0, x2, h3⟩
      go_wp2_with fail
      refine wp_region_held (S := fun w' => w'.cell? ⟨w.heap.size, 0, none⟩ = some (.int .i64 wd) ∧ w'.cell? ⟨w.heap.size, 2, none⟩ = some (.slice (some ⟨b, o, none⟩) its.length ci) ∧ w'.cell? ⟨b, o + k * 2, none⟩ = some (.string t)) (by kernel_rfl) ?_
      change wpAnyH _ _ _ _ _ _ _ _ (World.drew _)
      refine wpAnyH_take (i := 0) (v := .pointer (some ⟨w.heap.size, 2, none⟩)) rfl (by kernel_rfl) (by kernel_rfl) (by kernel_rfl) (fun _ _ _ h => h) (.inl ⟨rfl, fun w' hS => by obtain ⟨s1, s2, s3⟩ := hS; go_simp⟩) hS0 ?_
      refine wpAnyH_take (i := 1) (v := .slice (some ⟨b, o, none⟩) its.length ci) rfl (by kernel_rfl) (by kernel_rfl) (by kernel_rfl) (fun _ _ _ h => h) (.inl ⟨rfl, fun w' hS => by obtain ⟨s1, s2, s3⟩ := hS; go_simp⟩) hS0 ?_
      refine wpAnyH_take (i := 2) (v := .int .i64 (k : Nat)) rfl (by kernel_rfl) (by kernel_rfl) (by kernel_rfl) (fun _ _ _ h => h) (.inl ⟨rfl, fun w' hS => by obtain ⟨s1, s2, s3⟩ := hS; go_simp⟩) hS0 ?_
      refine wpAnyH_take (i := 3) (v := .pointer (some ⟨b, o + k * 2, none⟩)) rfl (by kernel_rfl) (by kernel_rfl) (by kernel_rfl) (fun _ _ _ h => h) (.inl ⟨rfl, fun w' hS => by obtain ⟨s1, s2, s3⟩ := hS; go_simp⟩) hS0 ?_
      refine wpAnyH_take (i := 4) (v := .pointer (some ⟨b, o + k * 2, none⟩)) rfl (by kernel_rfl) (by kernel_rfl) (by kernel_rfl) (fun _ _ _ h => h) (.inl ⟨rfl, fun w' hS => by obtain ⟨s1, s2, s3⟩ := hS; go_simp⟩) hS0 ?_
      refine wpAnyH_take (i := 5) (v := .string t) rfl (by kernel_rfl) (by kernel_rfl) (by kernel_rfl) (fun _ _ _ h => h) (.inl ⟨rfl, fun w' hS => by obtain ⟨s1, s2, s3⟩ := hS; go_simp⟩) hS0 ?_
      refine wpAnyH_take (i := 6) (v := .pointer (some ⟨w.heap.size, 0, none⟩)) rfl (by kernel_rfl) (by kernel_rfl) (by kernel_rfl) (fun _ _ _ h => h) (.inl ⟨rfl, fun w' hS => by obtain ⟨s1, s2, s3⟩ := hS; go_simp⟩) hS0 ?_
      refine wpAnyH_take (i := 7) (v := .int .i64 wd) rfl (by kernel_rfl) (by kernel_rfl) (by kernel_rfl) (fun _ _ _ h => h) (.inl ⟨rfl, fun w' hS => by obtain ⟨s1, s2, s3⟩ := hS; go_simp⟩) hS0 ?_
      refine wpAnyH_take (i := 9) (v := .string s) rfl (by kernel_rfl) (by kernel_rfl) (by kernel_rfl) (fun _ _ _ h => h) (.inl ⟨rfl, fun w' hS => by obtain ⟨s1, s2, s3⟩ := hS; go_simp⟩) hS0 ?_
      refine held_one 8 (by kernel_rfl) (op_calls (f := 30) (args := #[.string t, .int .i64 wd]) rfl rfl (by go_simp) (HSk.out _) ?_)
      rintro e w1 ⟨rfl, hb1⟩
      have hb1' : Below wr.heap.size wr w1 := ⟨hb1.os, hb1.tape, hb1.output, hb1.size, hb1.block⟩
      have X1 := HBX.out.below hb1'
      have hS1 : w1.cell? ⟨w.heap.size, 0, none⟩ = some (.int .i64 wd) ∧ w1.cell? ⟨w.heap.size, 2, none⟩ = some (.slice (some ⟨b, o, none⟩) its.length ci) ∧ w1.cell? ⟨b, o + k * 2, none⟩ = some (.string t) := ⟨X1.cell 0, X1.cell 2, (hb1'.cell (p := ⟨b, o + k * 2, none⟩) hbk).trans h3⟩
      have HB1 := hid (HB.out.trans (hb1'.mono HB.out.size))
      have HX1 := hid X1
      clear hb1 hb1' hS0 x0 x2 h3 X1
      refine ⟨_, rfl, hS1, ?_⟩
      cases hx : (x.toList == s.toList) with
      | true =>
        have HE : Hid (x = s) := text_eq (eq_of_beq hx)
        refine wpAnyH_take (i := 10) (v := .bool true) rfl (by kernel_rfl) (by kernel_rfl) (by kernel_rfl) (fun _ _ _ h => h) (.inl ⟨rfl, fun w' hS => by obtain ⟨s1, s2, s3⟩ := hS; go_simp⟩) hS1 ?_
        refine wpAnyH_done (by kernel_rfl) ?_ _
        clear hS1 hx
        go_simp
        go_wp2
        go_ret
        exact ⟨_, rfl, .inr ⟨k, hlt, rfl, by rw [HTX.out, HSX.out]; exact HE.out⟩, HB1.out⟩
      | false =>
        have HE : Hid (x ≠ s) := fun e => by rw [e] at hx; simp at hx
        refine wpAnyH_take (i := 10) (v := .bool false) rfl (by kernel_rfl) (by kernel_rfl) (by kernel_rfl) (fun _ _ _ h => h) (.inl ⟨rfl, fun w' hS => by obtain ⟨s1, s2, s3⟩ := hS; go_simp⟩) hS1 ?_
        refine wpAnyH_done (by kernel_rfl) ?_ _
        clear hS1 hx
        go_simp
        go_wp2
        refine ⟨⟨k + 1, by omega, by go_num, fun j hj => (Nat.lt_or_eq_of_le (Nat.le_of_lt_succ hj)).elim (HNO.out j) (fun e => by rw [e, HTX.out, HSX.out]; exact HE.out), HX1.out, HB1.out⟩, by simp [intOf]; omega⟩
    · obtain rfl : k = its.length := by omega
      clear hbx hb
      go_wp2
      go_ret
      exact ⟨-1, rfl, .inl ⟨rfl, HNO.out⟩, HB.out⟩
end Go.Proofs.Ytmcipciimnncmaa
