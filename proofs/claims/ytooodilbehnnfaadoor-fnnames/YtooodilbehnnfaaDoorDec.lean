/- spec.l3Dec: the decimal of a number. -/
import Derived.Test.YtooodilbehnnfaaDoorBytes
import Derived.Test.YtooodilbehnnfaaDoorHeld
import Derived.Test.YtooodilbehnnfaaDoorListBox
import Derived.Lib.ItoaNum
import Derived.Shelf.Abstract
namespace Go.Proofs.YtooodilbehnnfaaDoor
open Go.RowKit
def decB (n : Nat) : ByteArray := ⟨(Lib.decDigits n).toArray⟩
theorem decB_small {n : Nat} (h : n < 10) : decB n = ⟨#[UInt8.ofNat (48 + n)]⟩ := by
  unfold decB
  rw [Lib.decDigits, dif_pos h]
theorem decB_step {n : Nat} (h : ¬ n < 10) : decB n = ⟨(decB (n / 10)).data ++ #[UInt8.ofNat (48 + n % 10)]⟩ := by
  unfold decB
  rw [Lib.decDigits, dif_neg h]
  simp
theorem decB_len : ∀ (f n : Nat), n ≤ f → (decB n).size ≤ n + 1
  | 0, n, h => by
    obtain rfl : n = 0 := by omega
    rw [decB_small (by omega)]; simp [ByteArray.size]
  | f + 1, n, h => by
    by_cases h10 : n < 10
    · rw [decB_small h10]; simp [ByteArray.size]
    · have ih := decB_len f (n / 10) (by omega)
      rw [decB_step h10]
      show ((decB (n / 10)).data ++ #[UInt8.ofNat (48 + n % 10)]).size ≤ n + 1
      rw [Array.size_append]
      have : (decB (n / 10)).data.size = (decB (n / 10)).size := rfl
      simp only [List.size_toArray, List.length_cons, List.length_nil]
      omega
theorem app_mk (d : ByteArray) (c : UInt8) : d ++ ⟨#[c]⟩ = ⟨d.data ++ #[c]⟩ := by
  rcases d with ⟨⟨l⟩⟩
  have := ByteArray.mk_append_mk l [c]
  simpa using this
theorem conv_at {W : World} {b : Nat} {q : Int} (h : W.cell? ⟨b, 0, none⟩ = some (.int .u8 q)) : (convert 33 9 (.slice (some ⟨b, 0, none⟩) 1 1)).run Tryd.prog W = .ok (.string ⟨#[UInt8.ofNat q.toNat]⟩) W :=
  run_convert_bytes_arg _ 33 5 Tryd.underlying33 Tryd.underlying5 b 0 1 1 [q] rfl (fun i hi => by
    obtain rfl : i = 0 := by omega
    simpa using h) 9 Tryd.underlying9
set_option maxRecDepth 100000 in
set_option maxHeartbeats 1000000 in
theorem l3Dec_any : ∀ (f n : Nat) (w : World), n ≤ f → n ≤ 100000 →
    Calls Tryd.prog 19 #[.int .i64 n] w fun e w' => e = .returned (.string (decB n)) ∧ Below w.heap.size w w' := by
  have small : ∀ (n : Nat) (w : World), n < 10 → Calls Tryd.prog 19 #[.int .i64 n] w fun e w' => e = .returned (.string (decB n)) ∧ Below w.heap.size w w' := by
    intro n w h10
    have hcv := conv_one
    have HD := hid (decB_small h10)
    go_enter Tryd.func19, Tryd.ntmps19
    go_wp2
    go_ret
    refine ⟨?_, (Below.refl _ _).alloc (Nat.le_refl _) _⟩
    rw [HD.out]
    rfl
  intro f
  induction f with
  | zero => exact fun n w h _ => small n w (by omega)
  | succ f ih =>
    intro n w h hn
    by_cases h10 : n < 10
    · exact small n w h10
    · have HI := hid fun W => ih (n / 10) W (by omega) (by omega)
      have HD := hid (decB_step h10)
      change Hid (∀ W, Calls Tryd.prog 19 #[.int .i64 ((n / 10 : Nat) : Int)] W _) at HI
      have e1 : ((n / 10 : Nat) : Int) = (n : Int) / 10 := by omega
      rw [e1] at HI
      have hds := decB_len (n / 10) (n / 10) (Nat.le_refl _)
      generalize decB (n / 10) = d at *
      have hdz : d.size ≤ 100001 := by omega
      clear hds
      clear ih small
      go_enter Tryd.func19, Tryd.ntmps19
      go_wp2_with fail
      refine wp_region_held (S := fun _ => True) (by kernel_rfl) ?_
      change wpAnyH _ _ _ _ _ _ _ _ (World.drew _)
      refine wpAnyH_take (i := 0) (v := .int .i64 n) rfl (by kernel_rfl) (by kernel_rfl) (by kernel_rfl) (fun _ _ _ h => h) (.inl ⟨rfl, fun w' _ => by go_simp⟩) trivial ?_
      refine wpAnyH_take (i := 1) (v := .int .i64 ((n : Int) / 10)) rfl (by kernel_rfl) (by kernel_rfl) (by kernel_rfl) (fun _ _ _ h => h) (.inl ⟨rfl, fun w' _ => by go_simp; rw [IntKind.wrap_i64]; omega⟩) trivial ?_
      refine wpAnyH_take (i := 3) (v := .int .i64 n) rfl (by kernel_rfl) (by kernel_rfl) (by kernel_rfl) (fun _ _ _ h => h) (.inl ⟨rfl, fun w' _ => by go_simp⟩) trivial ?_
      refine wpAnyH_take (i := 4) (v := .int .i64 ((n : Int) % 10)) rfl (by kernel_rfl) (by kernel_rfl) (by kernel_rfl) (fun _ _ _ h => h) (.inl ⟨rfl, fun w' _ => by go_simp; exact Int.tmod_eq_emod_of_nonneg (by omega)⟩) trivial ?_
      refine wpAnyH_take (i := 5) (v := .int .i64 (48 + (n : Int) % 10)) rfl (by kernel_rfl) (by kernel_rfl) (by kernel_rfl) (fun _ _ _ h => h) (.inl ⟨rfl, fun w' _ => by go_simp; rw [IntKind.wrap_i64]; omega⟩) trivial ?_
      refine wpAnyH_take (i := 6) (v := .int .u8 (48 + (n : Int) % 10)) rfl (by kernel_rfl) (by kernel_rfl) (by kernel_rfl) (fun _ _ _ h => h) (.inl ⟨rfl, fun w' _ => by go_simp; rw [IntKind.wrap_u8]; omega⟩) trivial ?_
      obtain ⟨q, hq⟩ : ∃ q : Int, q = 48 + (n : Int) % 10 := ⟨_, rfl⟩
      have HB : Hid (UInt8.ofNat q.toNat = UInt8.ofNat (48 + n % 10)) := by
        show _ = _
        rw [hq]; congr 1
      rw [← hq]
      generalize UInt8.ofNat (48 + n % 10) = c at *
      have hec := enters_of Tryd.func19 (by kernel_rfl) rfl
      have HF : Hid (∀ (w3 : World) (o : Obj), Below w.drew.heap.size w.drew w3 → Below w.heap.size w (w3.alloc o)) := fun w3 o hb => (⟨hb.os, hb.tape, hb.output, hb.size, hb.block⟩ : Below w.heap.size w w3).alloc hb.size o
      have HG : Hid (∀ (w3 : World), Below (w.alloc (.cells #[.int .u8 q] 5)).drew.heap.size (w.alloc (.cells #[.int .u8 q] 5)).drew w3 → Below w.heap.size w w3 ∧ w3.cell? ⟨w.heap.size, 0, none⟩ = some (.int .u8 q)) := fun w3 hb => by
        have hb' : Below (w.heap.size + 1) (w.alloc (.cells #[.int .u8 q] 5)) w3 := ⟨hb.os, hb.tape, hb.output, hb.size, fun k hk => hb.block k (by simpa using hk)⟩
        exact ⟨((Below.refl _ w).alloc (Nat.le_refl _) _).trans (hb'.mono (by omega)), (hb'.cell (p := ⟨w.heap.size, 0, none⟩) (by simp)).trans (by simp [World.cell?_alloc_new])⟩
      have hnew : (w.alloc (.cells #[.int .u8 q] 5)).cell? ⟨w.heap.size, 0, none⟩ = some (.int .u8 q) := by simp [World.cell?_alloc_new]
      have hcn := fun W => conv_one W q
      have hc0 := conv_at (W := (w.alloc (.cells #[.int .u8 q] 5)).drew) (b := w.heap.size) (q := q) hnew
      rw [HB.out] at hcn hc0
      clear hq e1 hnew
      refine held_two 2 7 (by kernel_rfl) (op_calls (f := 19) (args := #[.int .i64 ((n : Int) / 10)]) rfl rfl (by go_simp) (HI.out _) ?_) (op_value (v := .slice (some ⟨w.heap.size, 0, none⟩) 1 1) (w' := (w.alloc (.cells #[.int .u8 q] 5)).drew) rfl rfl (by go_simp) ⟨trivial, held_two 2 8 (by kernel_rfl) (op_calls (f := 19) (args := #[.int .i64 ((n : Int) / 10)]) rfl rfl (by go_simp) (HI.out _) ?_) (op_value (v := .string ⟨#[c]⟩) (w' := (w.alloc (.cells #[.int .u8 q] 5)).drew) rfl rfl (by go_simp) ⟨trivial, held_one 2 (by kernel_rfl) (op_calls (f := 19) (args := #[.int .i64 ((n : Int) / 10)]) rfl rfl (by go_simp) (HI.out _) ?_)⟩)⟩)
      · rintro e w3 ⟨rfl, hb3⟩
        have HB3 := hid (HF.out w3 (.cells #[.int .u8 q] 5) hb3)
        have hc3 := hcn w3
        clear hb3
        refine ⟨_, rfl, trivial, held_one 7 (by kernel_rfl) (op_value (v := .slice (some ⟨w3.heap.size, 0, none⟩) 1 1) (w' := w3.alloc (.cells #[.int .u8 q] 5)) rfl rfl (by go_simp) ⟨trivial, held_one 8 (by kernel_rfl) (op_value (v := .string ⟨#[c]⟩) (w' := w3.alloc (.cells #[.int .u8 q] 5)) rfl rfl (by go_simp) ⟨trivial, held_one 9 (by kernel_rfl) (op_value (v := .string (d ++ ⟨#[c]⟩)) (w' := w3.alloc (.cells #[.int .u8 q] 5)) rfl rfl (by go_simp; omega) ⟨trivial, held_one 10 (by kernel_rfl) (op_value (v := .string (d ++ ⟨#[c]⟩)) (w' := w3.alloc (.cells #[.int .u8 q] 5)) rfl rfl (by go_simp) ⟨trivial, wpAnyH_done (by kernel_rfl) ?_ _⟩)⟩)⟩)⟩)⟩
        go_simp
        go_wp2
        go_ret
        exact ⟨by rw [HD.out, ← app_mk]; rfl, HB3.out⟩
      · rintro e w3 ⟨rfl, hb3⟩
        obtain ⟨hb3', hcell⟩ := HG.out w3 hb3
        have HB3 := hid hb3'
        have hc3 := conv_at hcell
        rw [HB.out] at hc3
        clear hb3 hb3' hcell
        refine ⟨_, rfl, trivial, held_one 8 (by kernel_rfl) (op_value (v := .string ⟨#[c]⟩) (w' := w3) rfl rfl (by go_simp) ⟨trivial, held_one 9 (by kernel_rfl) (op_value (v := .string (d ++ ⟨#[c]⟩)) (w' := w3) rfl rfl (by go_simp; omega) ⟨trivial, held_one 10 (by kernel_rfl) (op_value (v := .string (d ++ ⟨#[c]⟩)) (w' := w3) rfl rfl (by go_simp) ⟨trivial, wpAnyH_done (by kernel_rfl) ?_ _⟩)⟩)⟩)⟩
        go_simp
        go_wp2
        go_ret
        exact ⟨by rw [HD.out, ← app_mk]; rfl, HB3.out⟩
      · rintro e w3 ⟨rfl, hb3⟩
        obtain ⟨hb3', _⟩ := HG.out w3 hb3
        have HB3 := hid hb3'
        clear hb3 hb3'
        refine ⟨_, rfl, trivial, held_one 9 (by kernel_rfl) (op_value (v := .string (d ++ ⟨#[c]⟩)) (w' := w3) rfl rfl (by go_simp; omega) ⟨trivial, held_one 10 (by kernel_rfl) (op_value (v := .string (d ++ ⟨#[c]⟩)) (w' := w3) rfl rfl (by go_simp) ⟨trivial, wpAnyH_done (by kernel_rfl) ?_ _⟩)⟩)⟩
        go_simp
        go_wp2
        go_ret
        exact ⟨by rw [HD.out, ← app_mk]; rfl, HB3.out⟩
end Go.Proofs.YtooodilbehnnfaaDoor
