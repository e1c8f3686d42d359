/- spec.l3Bytes: digits read loosely. -/
import Derived.Test.YtakldjpohflkmaaDoorNumber
import Derived.Test.YtakldjpohflkmaaDoorHex
namespace Go.Proofs.YtakldjpohflkmaaDoor
open Go.RowKit
def byI (a b : Nat) : Int := (16 * digI a + digI b) % 256
def byL : List UInt8 → List UInt8
  | a :: b :: r => UInt8.ofNat (byI a.toNat b.toNat).toNat :: byL r
  | _ => []
theorem byL_take : ∀ (k : Nat) (l : List UInt8), 2 * k + 1 < l.length → byL (l.take (2 * (k + 1))) = byL (l.take (2 * k)) ++ [UInt8.ofNat (byI (l.getD (2 * k) 0).toNat (l.getD (2 * k + 1) 0).toNat).toNat]
  | 0, a :: b :: r, _ => by simp [byL]
  | 0, [], h => by simp at h
  | 0, [a], h => by simp at h
  | k + 1, [], h => by simp at h
  | k + 1, [a], h => by simp at h
  | k + 1, a :: b :: r, h => by
    have ih := byL_take k r (by simp at h; omega)
    have e1 : (a :: b :: r).take (2 * (k + 1 + 1)) = a :: b :: r.take (2 * (k + 1)) := by rw [show 2 * (k + 1 + 1) = 2 * (k + 1) + 1 + 1 by omega]; rfl
    have e2 : (a :: b :: r).take (2 * (k + 1)) = a :: b :: r.take (2 * k) := by rw [show 2 * (k + 1) = 2 * k + 1 + 1 by omega]; rfl
    rw [e1, e2]
    show _ :: byL (r.take (2 * (k + 1))) = (_ :: byL (r.take (2 * k))) ++ _
    rw [ih, show 2 * (k + 1) = 2 * k + 1 + 1 by omega]
    simp
theorem byL_end : ∀ (k : Nat) (l : List UInt8), l.length ≤ 2 * k + 1 → byL (l.take (2 * k)) = byL l
  | 0, [], _ => rfl
  | 0, [a], _ => rfl
  | 0, a :: b :: r, h => by simp at h
  | k + 1, [], _ => by simp
  | k + 1, [a], _ => by rw [show 2 * (k + 1) = 2 * k + 1 + 1 by omega]; rfl
  | k + 1, a :: b :: r, h => by
    have e2 : (a :: b :: r).take (2 * (k + 1)) = a :: b :: r.take (2 * k) := by rw [show 2 * (k + 1) = 2 * k + 1 + 1 by omega]; rfl
    rw [e2]
    show _ :: byL (r.take (2 * k)) = _ :: byL r
    rw [byL_end k r (by simp at h; omega)]
theorem byI_range (a b : Nat) : 0 ≤ byI a b ∧ byI a b < 256 := by unfold byI; omega
theorem digI_range (b : Nat) (h : b < 256) : -87 ≤ digI b ∧ digI b ≤ 168 := by unfold digI; split <;> omega
theorem byL_cells (l : List UInt8) (k : Nat) (h : 2 * k + 1 < l.length) : Lib.byteCells (byL (l.take (2 * (k + 1)))) = Lib.byteCells (byL (l.take (2 * k))) ++ [.int .u8 (byI (l.getD (2 * k) 0).toNat (l.getD (2 * k + 1) 0).toNat)] := by
  rw [byL_take k l h]
  have hr := byI_range (l.getD (2 * k) 0).toNat (l.getD (2 * k + 1) 0).toNat
  generalize byI (l.getD (2 * k) 0).toNat (l.getD (2 * k + 1) 0).toNat = z at *
  simp [Lib.byteCells]
  omega
theorem at_getD (s : ByteArray) (k : Nat) (h : k < s.size) : s.data.toList.getD k 0 = s[k] := by
  have hk : k < s.data.toList.length := by rw [Array.length_toList]; exact h
  rw [List.getD_eq_getElem?_getD, List.getElem?_eq_getElem hk]
  rfl
theorem run_at (s : ByteArray) (k : Nat) (h : k < s.size) (W : World) : (Instr.index 9 (.string s) (.int .i64 (k : Int))).run Tryd.prog W = .ok (.int .u8 ((s[k]'h).toNat : Int)) W := by
  have hk0 : (0 : Int) ≤ (k : Int) := by omega
  have hk1 : (k : Int) < (s.size : Int) := by omega
  have hu := Tryd.underlying9
  go_simp
theorem cell_byte_new (W : World) (x : Value) (j : Nat) (u : Value) (h : [x][j]? = some u) : (W.alloc (.cells #[x] 5)).drew.cell? ((⟨W.heap.size, 0, none⟩ : Addr).add j) = some u := by
  cases j with
  | zero => simp at h; subst h; exact World.cell?_alloc_new W #[x] 5 0
  | succ j => simp at h
set_option maxRecDepth 100000 in
set_option maxHeartbeats 1000000 in
theorem l3Bytes_any (s : ByteArray) (w : World) (hs : s.size ≤ 1048576) :
    Calls Tryd.prog 27 #[.string s] w fun e w' => e = .returned (.string ⟨(byL s.data.toList).toArray⟩) ∧ Below w.heap.size w w' := by
  obtain ⟨i0, hi, hz0, hz1, hz2⟩ := info_parts Tryd.infoByte
  go_enter Tryd.func27, Tryd.ntmps27
  go_wp2
  go_loopw [3, 4] (fun v i wr => ∃ (k : Nat) (ao : Option Addr) (cp : Nat), 2 * k ≤ s.size ∧ i = .int .i64 ((2 * k : Nat) : Int) ∧ v = .slice ao k cp ∧ wr.ownsRow w.heap.size 5 1 v k (Lib.byteCells (byL (s.data.toList.take (2 * k)))) ∧ Below w.heap.size w wr) (fun _ i _ => s.size - (intOf i).toNat)
  case atStart => exact ⟨0, _, _, Nat.zero_le _, rfl, rfl, World.ownsRow_made w #[] 0 (Nat.le_refl _) (by simp [maxLen]) rfl, (Below.refl _ _).alloc (Nat.le_refl _) _⟩
  case round =>
    obtain ⟨k, ao, cp, hk, rfl, rfl, hrow, hbl⟩ := hrel
    by_cases hlt : 2 * k + 1 < s.size
    · have hk0 : (0 : Int) ≤ 2 * (k : Int) := by omega
      have hk1 : 2 * (k : Int) + 1 < (s.size : Int) := by omega
      have hk2 : 2 * (k : Int) < (s.size : Int) := by omega
      have hk3 : (0 : Int) ≤ 2 * (k : Int) + 1 := by omega
      have hlen : 2 * k + 1 < s.data.toList.length := by rw [Array.length_toList]; exact hlt
      have hl2 : 2 * k < s.size := by omega
      have hT := byL_cells s.data.toList k hlen
      rw [at_getD s (2 * k) hl2, at_getD s (2 * k + 1) hlt] at hT
      obtain ⟨b, hb⟩ : ∃ b : Nat, b = (s[2 * k]'hl2).toNat := ⟨_, rfl⟩
      obtain ⟨c, hc⟩ : ∃ c : Nat, c = (s[2 * k + 1]'hlt).toNat := ⟨_, rfl⟩
      have hb256 : b < 256 := by rw [hb]; exact UInt8.toNat_lt _
      have hc256 : c < 256 := by rw [hc]; exact UInt8.toNat_lt _
      rw [← hb, ← hc] at hT
      have HT := hid hT
      have hib : ∀ W : World, (Instr.index 9 (.string s) (.int .i64 ((2 * k : Nat) : Int))).run Tryd.prog W = .ok (.int .u8 (b : Int)) W := fun W => by rw [hb]; exact run_at s (2 * k) hl2 W
      have hic : ∀ W : World, (Instr.index 9 (.string s) (.int .i64 ((2 * k + 1 : Nat) : Int))).run Tryd.prog W = .ok (.int .u8 (c : Int)) W := fun W => by rw [hc]; exact run_at s (2 * k + 1) hlt W
      have HIB := hid hib
      have HIC := hid hic
      have HROW := hid hrow
      have HBL := hid hbl
      have hsz := hbl.size
      have HDb := hid fun W => l3Digit_any b hb256 W
      have HDc := hid fun W => l3Digit_any c hc256 W
      have hrb := digI_range b hb256
      have hrc := digI_range c hc256
      have HBY : Hid ((16 * digI b + digI c) % 256 = byI b c) := rfl
      generalize digI b = x at *
      generalize digI c = y at *
      clear hib hic hT hb hc hrow hbl
      go_wp2_with fail
      refine wp_region_held (S := fun _ => True) (by kernel_rfl) ?_
      change wpAnyH _ _ _ _ _ _ _ _ (World.drew _)
      refine wpAnyH_take (i := 0) (v := .slice ao k cp) rfl (by kernel_rfl) (by kernel_rfl) (by kernel_rfl) (fun _ _ _ h => h) (.inl ⟨rfl, fun w' _ => by go_simp⟩) trivial ?_
      refine wpAnyH_take (i := 1) (v := .string s) rfl (by kernel_rfl) (by kernel_rfl) (by kernel_rfl) (fun _ _ _ h => h) (.inl ⟨rfl, fun w' _ => by go_simp⟩) trivial ?_
      refine wpAnyH_take (i := 2) (v := .int .i64 ((2 * k : Nat) : Int)) rfl (by kernel_rfl) (by kernel_rfl) (by kernel_rfl) (fun _ _ _ h => h) (.inl ⟨rfl, fun w' _ => by go_simp⟩) trivial ?_
      refine wpAnyH_take (i := 3) (v := .int .u8 (b : Int)) rfl (by kernel_rfl) (by kernel_rfl) (by kernel_rfl) (fun _ _ _ h => h) (.inl ⟨rfl, fun w' _ => exec_index (t := 9) (x := .tmp 14) (i := .tmp 15) (s := s) (k := .i64) (j := ((2 * k : Nat) : Int)) (by rfl) (by go_simp) (by go_simp) (HIB.out w')⟩) trivial ?_
      refine wpAnyH_take (i := 6) (v := .string s) rfl (by kernel_rfl) (by kernel_rfl) (by kernel_rfl) (fun _ _ _ h => h) (.inl ⟨rfl, fun w' _ => by go_simp⟩) trivial ?_
      refine wpAnyH_take (i := 7) (v := .int .i64 ((2 * k : Nat) : Int)) rfl (by kernel_rfl) (by kernel_rfl) (by kernel_rfl) (fun _ _ _ h => h) (.inl ⟨rfl, fun w' _ => by go_simp⟩) trivial ?_
      refine wpAnyH_take (i := 8) (v := .int .i64 ((2 * k + 1 : Nat) : Int)) rfl (by kernel_rfl) (by kernel_rfl) (by kernel_rfl) (fun _ _ _ h => h) (.inl ⟨rfl, fun w' _ => by go_simp; first | exact IntKind.wrap_u8 _ | (rw [IntKind.wrap_i64]; omega)⟩) trivial ?_
      refine wpAnyH_take (i := 9) (v := .int .u8 (c : Int)) rfl (by kernel_rfl) (by kernel_rfl) (by kernel_rfl) (fun _ _ _ h => h) (.inl ⟨rfl, fun w' _ => exec_index (t := 9) (x := .tmp 19) (i := .tmp 21) (s := s) (k := .i64) (j := ((2 * k + 1 : Nat) : Int)) (by rfl) (by go_simp) (by go_simp) (HIC.out w')⟩) trivial ?_
      have hed := enters_of Tryd.func38 (by kernel_rfl) rfl
      refine held_one 4 (by kernel_rfl) (op_calls (f := 38) (args := #[.int .u8 (b : Int)]) rfl rfl (by go_simp) (HDb.out _) ?_)
      rintro e w1 ⟨rfl, rfl⟩
      refine ⟨_, rfl, trivial, ?_⟩
      refine wpAnyH_take (i := 5) (v := .int .i64 (16 * x)) rfl (by kernel_rfl) (by kernel_rfl) (by kernel_rfl) (fun _ _ _ h => h) (.inl ⟨rfl, fun w' _ => by go_simp; first | exact IntKind.wrap_u8 _ | (rw [IntKind.wrap_i64]; omega)⟩) trivial ?_
      refine held_one 10 (by kernel_rfl) (op_calls (f := 38) (args := #[.int .u8 (c : Int)]) rfl rfl (by go_simp) (HDc.out _) ?_)
      rintro e w1 ⟨rfl, rfl⟩
      refine ⟨_, rfl, trivial, ?_⟩
      refine wpAnyH_take (i := 11) (v := .int .i64 (16 * x + y)) rfl (by kernel_rfl) (by kernel_rfl) (by kernel_rfl) (fun _ _ _ h => h) (.inl ⟨rfl, fun w' _ => by go_simp; first | exact IntKind.wrap_u8 _ | (rw [IntKind.wrap_i64]; omega)⟩) trivial ?_
      refine wpAnyH_take (i := 12) (v := .int .u8 ((16 * x + y) % 256)) rfl (by kernel_rfl) (by kernel_rfl) (by kernel_rfl) (fun _ _ _ h => h) (.inl ⟨rfl, fun w' _ => by go_simp; first | exact IntKind.wrap_u8 _ | (rw [IntKind.wrap_i64]; omega)⟩) trivial ?_
      have hbase : w.heap.size ≤ (wr.alloc (.cells #[.int .u8 ((16 * x + y) % 256)] 5)).drew.heap.size := by simp; omega
      rw [HBY.out] at hbase ⊢
      generalize byI b c = z at *
      refine held_one 13 (by kernel_rfl) (op_value (v := .slice (some ⟨wr.heap.size, 0, none⟩) 1 1) (w' := (wr.alloc (.cells #[.int .u8 z] 5)).drew) rfl rfl (by go_simp) ⟨trivial, ?_⟩)
      refine held_one 14 (by kernel_rfl) (op_wp rfl rfl (wp_append_lies _ (.tmp 13) (.tmp 26) 37 rfl w.heap.size 5 i0 (.int .u8 0) 1 1 Tryd.underlying37 hi hz0 hz1 hz2 rfl (by decide) (.slice ao k cp) k _ (by go_simp) (HROW.out.alloc _) ⟨wr.heap.size, 0, none⟩ 1 1 [.int .u8 z] (by go_simp) rfl (cell_byte_new wr _) (by simp [Value.oneCell']) (by decide) (by unfold maxLen; omega) (by omega) hbase (wr.heap.size + 1) (by simp) ?_))
      intro g' cap' w4 hown4 hgrow4 _ hlt4
      have HB4 := hid (append_below HBL.out HROW.out (o := .cells #[.int .u8 z] 5) ⟨hgrow4.os, hgrow4.tape, hgrow4.output, hgrow4.size, hgrow4.block⟩)
      have HOWN4 := hid hown4
      clear hown4 hgrow4
      refine ⟨trivial, held_one 15 (by kernel_rfl) (op_value (v := .slice (some ⟨g', 0, none⟩) (k + 1) cap') (w' := w4) rfl rfl (by go_simp) ⟨trivial, wpAnyH_done (by kernel_rfl) ?_ _⟩)⟩
      go_simp
      go_wp2
      go_roundw
      case rel => exact ⟨k + 1, some ⟨g', 0, none⟩, cap', by omega, by go_num, rfl, by rw [HT.out]; exact HOWN4.out, HB4.out⟩
      case measure => simp [intOf]; omega
    · have hk1 : ¬ (2 * (k : Int) + 1 < (s.size : Int)) := by omega
      have hcv := conv_bytes hrow
      rw [byL_end k s.data.toList (by rw [Array.length_toList]; show s.size ≤ _; omega)] at hcv
      have HBL := hid hbl
      clear hrow hbl
      go_wp2
      go_ret
      exact ⟨rfl, HBL.out⟩
end Go.Proofs.YtakldjpohflkmaaDoor
