/- impl.learn, impl.reply. -/
import Derived.Test.YtnpfnafalkejnaaNoteOk
namespace Go.Proofs.Ytnpfnafalkejnaa
open Go.RowKit
theorem asc_fromTo {ts : List ByteArray} (h : Asc ts) (f t : ByteArray) : Asc (fromTo f t ts) := List.Pairwise.filter _ h
set_option maxRecDepth 100000 in
set_option maxHeartbeats 1000000 in
theorem learn_no (v : Value) (f t m : ByteArray) (c : Int) (vs : Value) (w : World) (hvs : ∃ a l cp, vs = .slice a l cp) :
    Calls Try.prog 33 #[v, .agg #[.string f, .string t, .int .i64 c, .string m, .bool false, vs]] w fun e w' => e = .returned (.tuple #[.slice none 0 0, .slice none 0 0]) ∧ Below w.heap.size w w' := by
  obtain ⟨a, l, cp, rfl⟩ := hvs
  have HA := hid ((Below.refl w.heap.size w).alloc (Nat.le_refl _) (.cells #[.string f, .string t, .int .i64 c, .string m, .bool false, .slice a l cp] 25))
  go_enter Try.func33, Try.ntmps33
  go_wp2
  go_ret2
  exact ⟨rfl, HA.out⟩
set_option maxRecDepth 100000 in
set_option maxHeartbeats 1000000 in
theorem learn_yes (v : Value) (ts : List ByteArray) (f t m : ByteArray) (c : Int) (vs : Value) (ss : List ByteArray) (n : Int) (w : World) (hv : Rdc w v ts) (hset : IsSet n ts) (hs : Rdc w vs ss) (hss : IsSet n ss) :
    Calls Try.prog 33 #[v, .agg #[.string f, .string t, .int .i64 c, .string m, .bool true, vs]] w fun e w' => ∃ v1 v2, e = .returned (.tuple #[v1, v2]) ∧ w'.ownsRow w.heap.size 9 1 v1 (minusL ss (fromTo f t ts)).length ((minusL ss (fromTo f t ts)).map Value.string) ∧ w'.ownsRow w.heap.size 9 1 v2 (minusL (fromTo f t ts) ss).length ((minusL (fromTo f t ts) ss).map Value.string) ∧ (∀ g, v1.ownBlock = some g → v2.ownBlock ≠ some g) ∧ Below w.heap.size w w' := by
  have hA := (Below.refl w.heap.size w).alloc (Nat.le_refl _) (.cells #[.string f, .string t, .int .i64 c, .string m, .bool true, vs] 25)
  have hlt := hset.2.1
  have hls := hss.2.1
  have hlf := fromTo_len f t ts
  have HST := hid (stretch_any v ts f t _ (hv.below hA) (okSums_asc hset.2.2) (by omega))
  have HW1 := hid fun W (k : Reads W vs ss) u (l : Rdc W u (fromTo f t ts)) => without_any vs u ss (fromTo f t ts) W k l (asc_fromTo (okSums_asc hset.2.2) f t) (by omega) (by omega)
  have HW2 := hid fun W u (k : Reads W u (fromTo f t ts)) (l : Rdc W vs ss) => without_any u vs (fromTo f t ts) ss W k l (okSums_asc hss.2.2) (by omega) (by omega)
  have HS := hid (hs.below hA)
  have HN := hid (Blk.new w 25 #[.string f, .string t, .int .i64 c, .string m, .bool true, vs])
  have HA := hid hA
  obtain ⟨av, cv, rfl, _⟩ := hv
  obtain ⟨a, ca, rfl, _⟩ := hs
  clear hA hset hss
  go_enter Try.func33, Try.ntmps33
  go_wp2_with fail
  refine HST.out.mono ?_
  rintro e w1 ⟨v1, rfl, hr1, hb1⟩
  have HR1 := hid hr1
  obtain ⟨a1, c1, rfl, _⟩ := hr1
  have N1 := HN.out.below hb1
  have HS1 := hid (HS.out.below hb1)
  have HB1 := hid (HA.out.trans (hb1.mono (by simp)))
  have hs1 := hb1.size
  rw [World.size_alloc] at hs1
  have HN1 := hid N1
  have hS0 : w1.drew.cell? ⟨w.heap.size, 5, none⟩ = some (.slice a ss.length ca) := N1.cell 5
  have hec := enters_of Try.func44 (by kernel_rfl) rfl
  have hbd : Below w1.heap.size w1 w1.drew := below_drewN (Below.refl _ _) 1
  have HBD := hid hbd
  clear hb1 N1 hbd
  go_wp2_with fail
  refine wp_region_held (S := fun w' => w'.cell? ⟨w.heap.size, 5, none⟩ = some (.slice a ss.length ca)) (by kernel_rfl) ?_
  change wpAnyH _ _ _ _ _ _ _ _ (World.drew _)
  refine wpAnyH_take (i := 0) (v := .pointer (some ⟨w.heap.size, 5, none⟩)) rfl (by kernel_rfl) (by kernel_rfl) (by kernel_rfl) (fun _ _ _ h => h) (.inl ⟨rfl, fun w' hS => by obtain s1 := hS; go_simp⟩) hS0 ?_
  refine wpAnyH_take (i := 1) (v := .slice a ss.length ca) rfl (by kernel_rfl) (by kernel_rfl) (by kernel_rfl) (fun _ _ _ h => h) (.inl ⟨rfl, fun w' hS => by obtain s1 := hS; go_simp⟩) hS0 ?_
  refine wpAnyH_take (i := 2) (v := .slice a1 (fromTo f t ts).length c1) rfl (by kernel_rfl) (by kernel_rfl) (by kernel_rfl) (fun _ _ _ h => h) (.inl ⟨rfl, fun w' hS => by obtain s1 := hS; go_simp⟩) hS0 ?_
  refine wpAnyH_take (i := 4) (v := .slice a1 (fromTo f t ts).length c1) rfl (by kernel_rfl) (by kernel_rfl) (by kernel_rfl) (fun _ _ _ h => h) (.inl ⟨rfl, fun w' hS => by obtain s1 := hS; go_simp⟩) hS0 ?_
  refine wpAnyH_take (i := 5) (v := .pointer (some ⟨w.heap.size, 5, none⟩)) rfl (by kernel_rfl) (by kernel_rfl) (by kernel_rfl) (fun _ _ _ h => h) (.inl ⟨rfl, fun w' hS => by obtain s1 := hS; go_simp⟩) hS0 ?_
  refine wpAnyH_take (i := 6) (v := .slice a ss.length ca) rfl (by kernel_rfl) (by kernel_rfl) (by kernel_rfl) (fun _ _ _ h => h) (.inl ⟨rfl, fun w' hS => by obtain s1 := hS; go_simp⟩) hS0 ?_
  refine held_one 3 (by kernel_rfl) (op_calls (f := 44) (args := #[.slice a ss.length ca, .slice a1 (fromTo f t ts).length c1]) rfl rfl (by go_simp) (HW1.out _ (HS1.out.reads.below HBD.out) _ (HR1.out.below HBD.out)) ?_)
  rintro e w2 ⟨v2, rfl, ho2, hb2⟩
  have hb2' : Below w1.heap.size w1 w2 := ⟨hb2.os, hb2.tape, hb2.output, hb2.size, hb2.block⟩
  have hS1 : w2.cell? ⟨w.heap.size, 5, none⟩ = some (.slice a ss.length ca) := (HN1.out.below hb2').cell 5
  have hs2 := hb2'.size
  refine ⟨_, rfl, hS1, ?_⟩
  refine held_one 7 (by kernel_rfl) (op_calls (f := 44) (args := #[.slice a1 (fromTo f t ts).length c1, .slice a ss.length ca]) rfl rfl (by go_simp) (HW2.out _ _ (HR1.out.reads.below hb2') (HS1.out.below hb2')) ?_)
  rintro e w3 ⟨v3, rfl, ho3, hb3⟩
  have hS2 : w3.cell? ⟨w.heap.size, 5, none⟩ = some (.slice a ss.length ca) := ((HN1.out.below hb2').below hb3).cell 5
  have HB3 := hid (HB1.out.trans ((hb2'.trans (hb3.mono hb2'.size)).mono HB1.out.size))
  have HO2 := hid (ownsRow_base (Below.row hb3 ho2) (show w.heap.size ≤ _ by show w.heap.size ≤ w1.heap.size; omega))
  have HO3 := hid (ownsRow_base ho3 (show w.heap.size ≤ _ by omega))
  have HAP : Hid (∀ g, v2.ownBlock = some g → v3.ownBlock ≠ some g) := fun g e e2 => by
    have k1 := (ho2.lt g e).2
    have k2 := (ho3.lt g e2).1
    omega
  refine ⟨_, rfl, hS2, ?_⟩
  obtain ⟨a2, c2, rfl, _⟩ := row_form ho2
  obtain ⟨a3, c3, rfl, _⟩ := row_form ho3
  refine wpAnyH_take (i := 8) (v := .slice a2 (minusL ss (fromTo f t ts)).length c2) rfl (by kernel_rfl) (by kernel_rfl) (by kernel_rfl) (fun _ _ _ h => h) (.inl ⟨rfl, fun w' hS => by obtain s1 := hS; go_simp⟩) hS2 ?_
  refine wpAnyH_take (i := 9) (v := .slice a3 (minusL (fromTo f t ts) ss).length c3) rfl (by kernel_rfl) (by kernel_rfl) (by kernel_rfl) (fun _ _ _ h => h) (.inl ⟨rfl, fun w' hS => by obtain s1 := hS; go_simp⟩) hS2 ?_
  refine wpAnyH_done (by kernel_rfl) ?_ _
  clear hS0 hS1 hS2 hb2 hb2' hb3 ho2 ho3
  go_simp
  go_wp2
  go_ret2
  exact ⟨_, _, rfl, HO2.out, HO3.out, HAP.out, HB3.out⟩
end Go.Proofs.Ytnpfnafalkejnaa
