/- impl.digitsOf: two digits for each byte. -/
import Derived.Test.YtooodilbehnnfaaDoorHex
import Derived.Laws.MakeOwn
namespace Go.Proofs.YtooodilbehnnfaaDoor
open Go.RowKit
theorem and15 (b : Nat) (h : b < 256) : bits BinOp.and IntKind.u8 (b : Int) 15 = (b : Int) % 16 :=
  (show ∀ x : Fin 256, bits BinOp.and IntKind.u8 (x.val : Int) 15 = (x.val : Int) % 16 by decide +kernel) ⟨b, h⟩
set_option maxRecDepth 100000 in
set_option maxHeartbeats 1000000 in
theorem digitsOf_any (s : ByteArray) (w : World) (hs : s.size ≤ 1048576) :
    Calls Tryd.prog 25 #[.string s] w fun e w' => e = .returned (.string (hexB s)) ∧ Below w.heap.size w w' := by
  obtain ⟨i0, hi, hz0, hz1, hz2⟩ := info_parts Tryd.infoByte
  obtain ⟨w1, hmk, hr1, hg1⟩ := run_make_own (P := Tryd.prog) w w.heap.size 33 5 i0 (.int .u8 0) 1 Tryd.underlying33 hi hz0 hz1 .i64 .i64 (2 * s.size) (by rw [hz2]; omega) (by unfold maxLen; omega) (Nat.le_refl _)
  rw [show ((2 * s.size : Nat) : Int) = 2 * (s.size : Int) by omega] at hmk
  have HR1 := hid hr1
  have HG1 : Hid (Below w.heap.size w w1) := ⟨hg1.os, hg1.tape, hg1.output, hg1.size, fun k hk => hg1.block k hk (by simp)⟩
  clear hr1 hg1
  go_enter Tryd.func25, Tryd.ntmps25
  go_wp2
  go_loopw [3, 4] (fun v i wr => ∃ (k : Nat) (ao : Option Addr) (cp : Nat), k ≤ s.size ∧ i = .int .i64 k ∧ v = .slice ao (2 * k) cp ∧ wr.ownsRow w.heap.size 5 1 v (2 * k) (Lib.byteCells (hexL (s.data.toList.take k))) ∧ Below w.heap.size w wr) (fun _ i _ => s.size - (intOf i).toNat)
  case atStart => exact ⟨0, _, _, Nat.zero_le _, rfl, rfl, HR1.out, HG1.out⟩
  case round =>
    obtain ⟨k, ao, cp, hk, rfl, rfl, hrow, hbl⟩ := hrel
    by_cases hlt : k < s.size
    · have hk0 : (0 : Int) ≤ (k : Int) := by omega
      have hk1 : (k : Int) < (s.size : Int) := by omega
      obtain ⟨b, hb⟩ : ∃ b : Nat, b = s[k].toNat := ⟨_, rfl⟩
      have hb256 : b < 256 := by rw [hb]; exact UInt8.toNat_lt _
      have hb' : (s[k].toNat : Int) = (b : Int) := by rw [hb]
      go_wp2_with fail
      refine wp_region_held (S := fun _ => True) (by kernel_rfl) ?_
      change wpAnyH _ _ _ _ _ _ _ _ (World.drew _)
      refine wpAnyH_take (i := 0) (v := .slice ao (2 * k) cp) rfl (by kernel_rfl) (by kernel_rfl) (by kernel_rfl) (fun _ _ _ h => h) (.inl ⟨rfl, fun w' _ => by go_simp⟩) trivial ?_
      refine wpAnyH_take (i := 1) (v := .string s) rfl (by kernel_rfl) (by kernel_rfl) (by kernel_rfl) (fun _ _ _ h => h) (.inl ⟨rfl, fun w' _ => by go_simp⟩) trivial ?_
      refine wpAnyH_take (i := 2) (v := .int .i64 k) rfl (by kernel_rfl) (by kernel_rfl) (by kernel_rfl) (fun _ _ _ h => h) (.inl ⟨rfl, fun w' _ => by go_simp⟩) trivial ?_
      refine wpAnyH_take (i := 3) (v := .int .u8 (b : Int)) rfl (by kernel_rfl) (by kernel_rfl) (by kernel_rfl) (fun _ _ _ h => h) (.inl ⟨rfl, fun w' _ => by go_simp⟩) trivial ?_
      refine wpAnyH_take (i := 4) (v := .int .u8 ((b / 16 : Nat) : Int)) rfl (by kernel_rfl) (by kernel_rfl) (by kernel_rfl) (fun _ _ _ h => h) (.inl ⟨rfl, fun w' _ => by go_simp⟩) trivial ?_
      refine wpAnyH_take (i := 5) (v := .int .u8 ((hx (b / 16)).toNat : Int)) rfl (by kernel_rfl) (by kernel_rfl) (by kernel_rfl) (fun _ _ _ h => h) (.inl ⟨rfl, fun w' _ => exec_index (t := 9) (x := .const (.string ⟨#[48, 49, 50, 51, 52, 53, 54, 55, 56, 57, 97, 98, 99, 100, 101, 102]⟩)) (i := .tmp 19) (s := ⟨#[48, 49, 50, 51, 52, 53, 54, 55, 56, 57, 97, 98, 99, 100, 101, 102]⟩) (k := .u8) (j := ((b / 16 : Nat) : Int)) (by rfl) (by go_simp) (by go_simp) (run_hex w' (b / 16) (by omega))⟩) trivial ?_
      refine wpAnyH_take (i := 6) (v := .string s) rfl (by kernel_rfl) (by kernel_rfl) (by kernel_rfl) (fun _ _ _ h => h) (.inl ⟨rfl, fun w' _ => by go_simp⟩) trivial ?_
      refine wpAnyH_take (i := 7) (v := .int .i64 k) rfl (by kernel_rfl) (by kernel_rfl) (by kernel_rfl) (fun _ _ _ h => h) (.inl ⟨rfl, fun w' _ => by go_simp⟩) trivial ?_
      refine wpAnyH_take (i := 8) (v := .int .u8 (b : Int)) rfl (by kernel_rfl) (by kernel_rfl) (by kernel_rfl) (fun _ _ _ h => h) (.inl ⟨rfl, fun w' _ => by go_simp⟩) trivial ?_
      refine wpAnyH_take (i := 9) (v := .int .u8 ((b % 16 : Nat) : Int)) rfl (by kernel_rfl) (by kernel_rfl) (by kernel_rfl) (fun _ _ _ h => h) (.inl ⟨rfl, fun w' _ => by go_simp; exact and15 b hb256⟩) trivial ?_
      refine wpAnyH_take (i := 10) (v := .int .u8 ((hx (b % 16)).toNat : Int)) rfl (by kernel_rfl) (by kernel_rfl) (by kernel_rfl) (fun _ _ _ h => h) (.inl ⟨rfl, fun w' _ => exec_index (t := 9) (x := .const (.string ⟨#[48, 49, 50, 51, 52, 53, 54, 55, 56, 57, 97, 98, 99, 100, 101, 102]⟩)) (i := .tmp 24) (s := ⟨#[48, 49, 50, 51, 52, 53, 54, 55, 56, 57, 97, 98, 99, 100, 101, 102]⟩) (k := .u8) (j := ((b % 16 : Nat) : Int)) (by rfl) (by go_simp) (by go_simp) (run_hex w' (b % 16) (by omega))⟩) trivial ?_
      have HT := hid (hexL_take s k hlt)
      rw [← hb] at HT
      have HROW := hid hrow
      have HBL := hid hbl
      have hsz := hbl.size
      generalize ((hx (b / 16)).toNat : Int) = x1 at *
      generalize ((hx (b % 16)).toNat : Int) = x2 at *
      clear hrow hbl hb hb'
      refine held_one 11 (by kernel_rfl) (op_value (v := .slice (some ⟨wr.heap.size, 0, none⟩) 2 2) (w' := (wr.alloc (.cells #[.int .u8 x1, .int .u8 x2] 5)).drew) rfl rfl (by go_simp) ⟨trivial, ?_⟩)
      refine held_one 12 (by kernel_rfl) (op_wp rfl rfl (wp_append_lies _ (.tmp 15) (.tmp 26) 33 rfl w.heap.size 5 i0 (.int .u8 0) 1 1 Tryd.underlying33 hi hz0 hz1 hz2 rfl (by decide) (.slice ao (2 * k) cp) (2 * k) _ (by go_simp) (HROW.out.alloc _) ⟨wr.heap.size, 0, none⟩ 2 2 [.int .u8 x1, .int .u8 x2] (by go_simp) rfl (cell_two_new wr _ _) (by simp [Value.oneCell']) (by decide) (by unfold maxLen; omega) (by omega) (by simp; omega) (wr.heap.size + 1) (by simp) ?_))
      intro g' cap' w4 hown4 hgrow4 _ hlt4
      have HB4 := hid (append_below HBL.out HROW.out (o := .cells #[.int .u8 x1, .int .u8 x2] 5) ⟨hgrow4.os, hgrow4.tape, hgrow4.output, hgrow4.size, hgrow4.block⟩)
      have HOWN4 := hid hown4
      clear hown4 hgrow4
      refine ⟨trivial, held_one 13 (by kernel_rfl) (op_value (v := .slice (some ⟨g', 0, none⟩) (2 * k + 2) cap') (w' := w4) rfl rfl (by go_simp) ⟨trivial, wpAnyH_done (by kernel_rfl) ?_ _⟩)⟩
      go_simp
      go_wp2
      go_roundw
      case rel => exact ⟨k + 1, some ⟨g', 0, none⟩, cap', by omega, by go_num, rfl, by rw [HT.out]; exact HOWN4.out, HB4.out⟩
      case measure => simp [intOf]; omega
    · obtain rfl : k = s.size := by omega
      have hcv := conv_bytes hrow
      have e : (s.data.toList.take s.size) = s.data.toList := take_all s s.size (by omega)
      rw [e] at hcv
      change _ = Result.ok (Value.string (hexB s)) wr at hcv
      have HBL := hid hbl
      clear hrow hbl e
      go_wp2
      go_ret
      exact ⟨rfl, HBL.out⟩
end Go.Proofs.YtooodilbehnnfaaDoor
