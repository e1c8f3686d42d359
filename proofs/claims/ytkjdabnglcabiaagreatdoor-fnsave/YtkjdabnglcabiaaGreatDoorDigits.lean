import Derived.Test.YtkjdabnglcabiaaGreatDoorShort
import Derived.Test.YtkjdabnglcabiaaGreatDoorBytes
import Derived.Test.YtkjdabnglcabiaaGreatDoorHeapMath
import Derived.Lib.ItoaNum
import Derived.Shelf.Abstract
import Derived.Lib.AppendStr
import Derived.Lib.UnsafeStr
import Derived.Test.YtkjdabnglcabiaaGreatDoorMarked
import Derived.Laws.MakeOwn
/- spec.l3Dec: the decimal of a number. -/
namespace Go.Proofs.YtkjdabnglcabiaaGreatDoor
open Go.RowKit
def decB (n : Nat) : ByteArray := ⟨(Lib.decDigits n).toArray⟩
theorem decB_small {n : Nat} (h : n < 10) : decB n = ⟨#[UInt8.ofNat (48 + n)]⟩ := by
 unfold decB
 rw [Lib.decDigits, dif_pos h]
theorem decB_step {n : Nat} (h : ¬ n < 10) : decB n = ⟨(decB (n / 10)).data ++ #[UInt8.ofNat (48 + n % 10)]⟩ := by
 unfold decB
 rw [Lib.decDigits, dif_neg h]
 simp
theorem decB_len : ∀ (f n : Nat), n ≤ f → (decB n).size ≤ n + 1
 | 0, n, h => by
  obtain rfl : n = 0 := by omega
  rw [decB_small (by omega)]; simp [ByteArray.size]
 | f + 1, n, h => by
  by_cases h10 : n < 10
  ·rw [decB_small h10]; simp [ByteArray.size]
  ·have ih := decB_len f (n / 10) (by omega)
   rw [decB_step h10]
   show ((decB (n / 10)).data ++ #[UInt8.ofNat (48 + n % 10)]).size ≤ n + 1
   rw [Array.size_append]
   have : (decB (n / 10)).data.size = (decB (n / 10)).size := rfl
   simp only [List.size_toArray, List.length_cons, List.length_nil]
   omega
theorem app_mk (d : ByteArray) (c : UInt8) : d ++ ⟨#[c]⟩ = ⟨d.data ++ #[c]⟩ := by
 rcases d with ⟨⟨l⟩⟩
 have := ByteArray.mk_append_mk l [c]
 simpa using this
theorem conv_at {W : World} {b : Nat} {q : Int} (h : W.cell? ⟨b, 0, none⟩ = some (.int .u8 q)) : (convert 22 9 (.slice (some ⟨b, 0, none⟩) 1 1)).run Tryz.prog W = .ok (.string ⟨#[UInt8.ofNat q.toNat]⟩) W :=
 run_convert_bytes_arg _ 22 5 Tryz.underlying22 Tryz.underlying5 b 0 1 1 [q] rfl (fun i hi => by
  obtain rfl : i = 0 := by omega
  simpa using h) 9 Tryz.underlying9
set_option maxRecDepth 100000 in
set_option maxHeartbeats 1000000 in
theorem l3Dec_any : ∀ (f n : Nat) (w : World), n ≤ f → n ≤ 100000 →
  Calls Tryz.prog 53 #[.int .i64 n] w fun e w' => e = .returned (.string (decB n)) ∧ Below w.heap.size w w' := by
 have small : ∀ (n : Nat) (w : World), n < 10 → Calls Tryz.prog 53 #[.int .i64 n] w fun e w' => e = .returned (.string (decB n)) ∧ Below w.heap.size w w' := by
  intro n w h10
  have hcv := conv_one
  have HD := hid (decB_small h10)
  go_enter Tryz.func53, Tryz.ntmps53
  go_wp2
  go_ret
  refine ⟨?_, (Below.refl _ _).alloc (Nat.le_refl _) _⟩
  rw [HD.out]
  rfl
 intro f
 induction f with
 | zero => exact fun n w h _ => small n w (by omega)
 | succ f ih =>
  intro n w h hn
  by_cases h10 : n < 10
  ·exact small n w h10
  ·have HI := hid fun W => ih (n / 10) W (by omega) (by omega)
   have HD := hid (decB_step h10)
   change Hid (∀ W, Calls Tryz.prog 53 #[.int .i64 ((n / 10 : Nat) : Int)] W _) at HI
   have e1 : ((n / 10 : Nat) : Int) = (n : Int) / 10 := by omega
   rw [e1] at HI
   have hds := decB_len (n / 10) (n / 10) (Nat.le_refl _)
   generalize decB (n / 10) = d at *
   have hdz : d.size ≤ 100001 := by omega
   clear hds
   clear ih small
   go_enter Tryz.func53, Tryz.ntmps53
   go_wp2_with fail
   refine wp_region_held (S := fun _ => True) (by kernel_rfl) ?_
   change wpAnyH _ _ _ _ _ _ _ _ (World.drew _)
   refine tkA 0 (.int .i64 n) rfl trivial ?_
   refine wpAnyH_take (i := 1) (v := .int .i64 ((n : Int) / 10)) rfl (by kernel_rfl) (by kernel_rfl) (by kernel_rfl) (fun _ _ _ h => h) (.inl ⟨rfl, fun w' _ => by go_simp; rw [IntKind.wrap_i64]; omega⟩) trivial ?_
   refine tkA 3 (.int .i64 n) rfl trivial ?_
   refine wpAnyH_take (i := 4) (v := .int .i64 ((n : Int) % 10)) rfl (by kernel_rfl) (by kernel_rfl) (by kernel_rfl) (fun _ _ _ h => h) (.inl ⟨rfl, fun w' _ => by go_simp; exact Int.tmod_eq_emod_of_nonneg (by omega)⟩) trivial ?_
   refine wpAnyH_take (i := 5) (v := .int .i64 (48 + (n : Int) % 10)) rfl (by kernel_rfl) (by kernel_rfl) (by kernel_rfl) (fun _ _ _ h => h) (.inl ⟨rfl, fun w' _ => by go_simp; rw [IntKind.wrap_i64]; omega⟩) trivial ?_
   refine wpAnyH_take (i := 6) (v := .int .u8 (48 + (n : Int) % 10)) rfl (by kernel_rfl) (by kernel_rfl) (by kernel_rfl) (fun _ _ _ h => h) (.inl ⟨rfl, fun w' _ => by go_simp; rw [IntKind.wrap_u8]; omega⟩) trivial ?_
   obtain ⟨q, hq⟩ : ∃ q : Int, q = 48 + (n : Int) % 10 := ⟨_, rfl⟩
   have HB : Hid (UInt8.ofNat q.toNat = UInt8.ofNat (48 + n % 10)) := by
    show _ = _
    rw [hq]; congr 1
   rw [← hq]
   generalize UInt8.ofNat (48 + n % 10) = c at *
   have hec := enters_of Tryz.func53 (by kernel_rfl) rfl
   have HF : Hid (∀ (w3 : World) (o : Obj), Below w.drew.heap.size w.drew w3 → Below w.heap.size w (w3.alloc o)) := fun w3 o hb => (⟨hb.os, hb.tape, hb.output, hb.size, hb.block⟩ : Below w.heap.size w w3).alloc hb.size o
   have HG : Hid (∀ (w3 : World), Below (w.alloc (.cells #[.int .u8 q] 5)).drew.heap.size (w.alloc (.cells #[.int .u8 q] 5)).drew w3 → Below w.heap.size w w3 ∧ w3.cell? ⟨w.heap.size, 0, none⟩ = some (.int .u8 q)) := fun w3 hb => by
    have hb' : Below (w.heap.size + 1) (w.alloc (.cells #[.int .u8 q] 5)) w3 := ⟨hb.os, hb.tape, hb.output, hb.size, fun k hk => hb.block k (by simpa using hk)⟩
    exact ⟨((Below.refl _ w).alloc (Nat.le_refl _) _).trans (hb'.mono (by omega)), (hb'.cell (p := ⟨w.heap.size, 0, none⟩) (by simp)).trans (by simp [World.cell?_alloc_new])⟩
   have hnew : (w.alloc (.cells #[.int .u8 q] 5)).cell? ⟨w.heap.size, 0, none⟩ = some (.int .u8 q) := by simp [World.cell?_alloc_new]
   have hcn := fun W => conv_one W q
   have hc0 := conv_at (W := (w.alloc (.cells #[.int .u8 q] 5)).drew) (b := w.heap.size) (q := q) hnew
   rw [HB.out] at hcn hc0
   clear hq e1 hnew
   refine held_two 2 7 (by kernel_rfl) (op_calls (f := 53) (args := #[.int .i64 ((n : Int) / 10)]) rfl rfl (by go_simp) (HI.out _) ?_) (op_value (v := .slice (some ⟨w.heap.size, 0, none⟩) 1 1) (w' := (w.alloc (.cells #[.int .u8 q] 5)).drew) rfl rfl (by go_simp) ⟨trivial, held_two 2 8 (by kernel_rfl) (op_calls (f := 53) (args := #[.int .i64 ((n : Int) / 10)]) rfl rfl (by go_simp) (HI.out _) ?_) (op_value (v := .string ⟨#[c]⟩) (w' := (w.alloc (.cells #[.int .u8 q] 5)).drew) rfl rfl (by go_simp) ⟨trivial, held_one 2 (by kernel_rfl) (op_calls (f := 53) (args := #[.int .i64 ((n : Int) / 10)]) rfl rfl (by go_simp) (HI.out _) ?_)⟩)⟩)
   ·rintro e w3 ⟨rfl, hb3⟩
    have HB3 := hid (HF.out w3 (.cells #[.int .u8 q] 5) hb3)
    have hc3 := hcn w3
    clear hb3
    refine ⟨_, rfl, trivial, held_one 7 (by kernel_rfl) (op_value (v := .slice (some ⟨w3.heap.size, 0, none⟩) 1 1) (w' := w3.alloc (.cells #[.int .u8 q] 5)) rfl rfl (by go_simp) ⟨trivial, held_one 8 (by kernel_rfl) (op_value (v := .string ⟨#[c]⟩) (w' := w3.alloc (.cells #[.int .u8 q] 5)) rfl rfl (by go_simp) ⟨trivial, held_one 9 (by kernel_rfl) (op_value (v := .string (d ++ ⟨#[c]⟩)) (w' := w3.alloc (.cells #[.int .u8 q] 5)) rfl rfl (by go_simp; omega) ⟨trivial, held_one 10 (by kernel_rfl) (op_value (v := .string (d ++ ⟨#[c]⟩)) (w' := w3.alloc (.cells #[.int .u8 q] 5)) rfl rfl (by go_simp) ⟨trivial, wpAnyH_done (by kernel_rfl) ?_ _⟩)⟩)⟩)⟩)⟩
    go_simp
    go_wp2
    go_ret
    exact ⟨by rw [HD.out, ← app_mk]; rfl, HB3.out⟩
   ·rintro e w3 ⟨rfl, hb3⟩
    obtain ⟨hb3', hcell⟩ := HG.out w3 hb3
    have HB3 := hid hb3'
    have hc3 := conv_at hcell
    rw [HB.out] at hc3
    clear hb3 hb3' hcell
    refine ⟨_, rfl, trivial, held_one 8 (by kernel_rfl) (op_value (v := .string ⟨#[c]⟩) (w' := w3) rfl rfl (by go_simp) ⟨trivial, held_one 9 (by kernel_rfl) (op_value (v := .string (d ++ ⟨#[c]⟩)) (w' := w3) rfl rfl (by go_simp; omega) ⟨trivial, held_one 10 (by kernel_rfl) (op_value (v := .string (d ++ ⟨#[c]⟩)) (w' := w3) rfl rfl (by go_simp) ⟨trivial, wpAnyH_done (by kernel_rfl) ?_ _⟩)⟩)⟩)⟩
    go_simp
    go_wp2
    go_ret
    exact ⟨by rw [HD.out, ← app_mk]; rfl, HB3.out⟩
   ·rintro e w3 ⟨rfl, hb3⟩
    obtain ⟨hb3', _⟩ := HG.out w3 hb3
    have HB3 := hid hb3'
    clear hb3 hb3'
    refine ⟨_, rfl, trivial, held_one 9 (by kernel_rfl) (op_value (v := .string (d ++ ⟨#[c]⟩)) (w' := w3) rfl rfl (by go_simp; omega) ⟨trivial, held_one 10 (by kernel_rfl) (op_value (v := .string (d ++ ⟨#[c]⟩)) (w' := w3) rfl rfl (by go_simp) ⟨trivial, wpAnyH_done (by kernel_rfl) ?_ _⟩)⟩)⟩
    go_simp
    go_wp2
    go_ret
    exact ⟨by rw [HD.out, ← app_mk]; rfl, HB3.out⟩
end Go.Proofs.YtkjdabnglcabiaaGreatDoor
/- spec.l3Hex and impl.digitsOf: two digits for each byte. -/
namespace Go.Proofs.YtkjdabnglcabiaaGreatDoor
open Go.RowKit
def hexD : List UInt8 := [48, 49, 50, 51, 52, 53, 54, 55, 56, 57, 97, 98, 99, 100, 101, 102]
def hx (j : Nat) : UInt8 := hexD.getD j 0
def hexL (l : List UInt8) : List UInt8 := l.flatMap fun b => [hx (b.toNat / 16), hx (b.toNat % 16)]
def hexB (s : ByteArray) : ByteArray := ⟨(hexL s.data.toList).toArray⟩
theorem hexL_len : ∀ l : List UInt8, (hexL l).length = 2 * l.length
 | [] => rfl
 | b :: l => by
  have := hexL_len l
  unfold hexL at this ⊢
  rw [List.flatMap_cons, List.length_append, this]
  simp; omega
theorem hexL_snoc (l : List UInt8) (b : UInt8) : hexL (l ++ [b]) = hexL l ++ [hx (b.toNat / 16), hx (b.toNat % 16)] := by
 unfold hexL; rw [List.flatMap_append]; simp
theorem lt16 {P : Nat → Prop} (h : P 0 ∧ P 1 ∧ P 2 ∧ P 3 ∧ P 4 ∧ P 5 ∧ P 6 ∧ P 7 ∧ P 8 ∧ P 9 ∧ P 10 ∧ P 11 ∧ P 12 ∧ P 13 ∧ P 14 ∧ P 15) (j : Nat) (hj : j < 16) : P j := by
 obtain ⟨h0, h1, h2, h3, h4, h5, h6, h7, h8, h9, h10, h11, h12, h13, h14, h15⟩ := h
 have : j = 0 ∨ j = 1 ∨ j = 2 ∨ j = 3 ∨ j = 4 ∨ j = 5 ∨ j = 6 ∨ j = 7 ∨ j = 8 ∨ j = 9 ∨ j = 10 ∨ j = 11 ∨ j = 12 ∨ j = 13 ∨ j = 14 ∨ j = 15 := by omega
 rcases this with rfl | rfl | rfl | rfl | rfl | rfl | rfl | rfl | rfl | rfl | rfl | rfl | rfl | rfl | rfl | rfl <;> assumption
theorem run_hex (W : World) (j : Nat) (hj : j < 16) : (Instr.index 9 (.string ⟨#[48, 49, 50, 51, 52, 53, 54, 55, 56, 57, 97, 98, 99, 100, 101, 102]⟩) (.int .u8 (j : Int))).run Tryz.prog W = .ok (.int .u8 ((hx j).toNat : Int)) W :=
 lt16 (P := fun j => (Instr.index 9 (.string ⟨#[48, 49, 50, 51, 52, 53, 54, 55, 56, 57, 97, 98, 99, 100, 101, 102]⟩) (.int .u8 (j : Int))).run Tryz.prog W = .ok (.int .u8 ((hx j).toNat : Int)) W)
  ⟨by kernel_rfl, by kernel_rfl, by kernel_rfl, by kernel_rfl, by kernel_rfl, by kernel_rfl, by kernel_rfl, by kernel_rfl, by kernel_rfl, by kernel_rfl, by kernel_rfl, by kernel_rfl, by kernel_rfl, by kernel_rfl, by kernel_rfl, by kernel_rfl⟩ j hj
theorem exec_index {P : Program} {a : Act} {o : Oper} {t : TypeId} {x i : Operand} {s : ByteArray} {k : IntKind} {j : Int} {v : Value} {w : World} (ho : o.op = .index t x i) (hx : a.eval x = .string s) (hi : a.eval i = .int k j)
  (h : (Instr.index t (.string s) (.int k j)).run P w = .ok v w) : (execOp a.eval o).run P w = .ok (.value v) w := by
 unfold execOp
 simp only [ho, hx, hi, Sem.run_bind, Sem.run_pure, Result.andThen_ok, h]
theorem cell_two_new (W : World) (x y : Value) (j : Nat) (u : Value) (h : [x, y][j]? = some u) : (W.alloc (.cells #[x, y] 5)).drew.cell? ((⟨W.heap.size, 0, none⟩ : Addr).add j) = some u := by
 have hn : (W.alloc (.cells #[x, y] 5)).drew.heap[W.heap.size]? = some (.cells #[x, y] 5 (0, 0)) := World.alloc_heap_new W _
 have ea : (⟨W.heap.size, 0, none⟩ : Addr).add j = ⟨W.heap.size, j, none⟩ := by simp [Addr.add]; omega
 rw [ea, cell_of_heap hn]
 simpa using h
theorem Tryz.infoByte : (Tryz.prog.info? 5).map (fun i => (i.zero, i.size, i.bytes)) = some (some (.int .u8 0), 1, 1) := by kernel_rfl
theorem hexL_take (s : ByteArray) (k : Nat) (h : k < s.size) : Lib.byteCells (hexL (s.data.toList.take (k + 1))) = Lib.byteCells (hexL (s.data.toList.take k)) ++ [.int .u8 ((hx (s[k].toNat / 16)).toNat : Int), .int .u8 ((hx (s[k].toNat % 16)).toNat : Int)] := by
 rw [take_snoc s k h, hexL_snoc]
 simp [Lib.byteCells]
theorem nums_bytes (l : List UInt8) : strOfNums (l.map fun b => (b.toNat : Int)) = ⟨l.toArray⟩ := by
 unfold strOfNums
 rw [List.map_map]
 have : ((fun n : Int => UInt8.ofNat n.toNat) ∘ fun b : UInt8 => (b.toNat : Int)) = id := by funext b; simp
 rw [this, List.map_id]
theorem conv_bytes {w : World} {base k : Nat} {v : Value} {l : List UInt8} (h : w.ownsRow base 5 1 v k (Lib.byteCells l)) :
  (convert 22 9 v).run Tryz.prog w = .ok (.string ⟨l.toArray⟩) w := by
 have e : Lib.byteCells l = (l.map fun b => (b.toNat : Int)).map (Value.int .u8) := by simp [Lib.byteCells]
 rw [e] at h
 rw [← nums_bytes]
 generalize (l.map fun b => (b.toNat : Int)) = ys at *
 have hl : ys.length = k := by have := h.1; simpa using this
 rcases h with ⟨h1, ⟨rfl, rfl⟩ | ⟨g, cap, cur, rfl, hb, hg, hn, hm, hs, hx⟩⟩
 ·have : ys = [] := List.eq_nil_of_length_eq_zero hl
  subst this
  exact run_convert_bytes_nil w 22 5 Tryz.underlying22 Tryz.underlying5 0 0 9 Tryz.underlying9
 ·have hr : w.ownsRow base 5 1 (.slice (some ⟨g, 0, none⟩) k cap) k (ys.map (Value.int .u8)) := ⟨h1, .inr ⟨g, cap, cur, rfl, hb, hg, hn, hm, hs, hx⟩⟩
  refine run_convert_bytes_arg w 22 5 Tryz.underlying22 Tryz.underlying5 g 0 k cap ys hl (fun i hi => ?_) 9 Tryz.underlying9
  rw [Nat.zero_add, hr.cellAt i (by omega)]
  have : i < ys.length := by omega
  simp [this]
set_option maxRecDepth 100000 in
set_option maxHeartbeats 1000000 in
theorem l3Hex_any (s : ByteArray) (w : World) (hs : s.size ≤ 1048576) :
  Calls Tryz.prog 54 #[.string s] w fun e w' => e = .returned (.string (hexB s)) ∧ Below w.heap.size w w' := by
 obtain ⟨i0, hi, hz0, hz1, hz2⟩ := info_parts Tryz.infoByte
 go_enter Tryz.func54, Tryz.ntmps54
 go_wp2
 go_loopw [4, 5] (fun v i wr => ∃ (k : Nat) (ao : Option Addr) (cp : Nat), k ≤ s.size ∧ i = .int .i64 k ∧ v = .slice ao (2 * k) cp ∧ wr.ownsRow w.heap.size 5 1 v (2 * k) (Lib.byteCells (hexL (s.data.toList.take k))) ∧ Below w.heap.size w wr) (fun _ i _ => s.size - (intOf i).toNat)
 case atStart => exact ⟨0, _, _, Nat.zero_le _, rfl, rfl, World.ownsRow_made w #[] 0 (Nat.le_refl _) (by simp [maxLen]) rfl, (Below.refl _ _).alloc (Nat.le_refl _) _⟩
 case round =>
  obtain ⟨k, ao, cp, hk, rfl, rfl, hrow, hbl⟩ := hrel
  by_cases hlt : k < s.size
  ·have hk0 : (0 : Int) ≤ (k : Int) := by omega
   have hk1 : (k : Int) < (s.size : Int) := by omega
   obtain ⟨b, hb⟩ : ∃ b : Nat, b = s[k].toNat := ⟨_, rfl⟩
   have hb256 : b < 256 := by rw [hb]; exact UInt8.toNat_lt _
   have hb' : (s[k].toNat : Int) = (b : Int) := by rw [hb]
   go_wp2_with fail
   refine wp_region_held (S := fun _ => True) (by kernel_rfl) ?_
   change wpAnyH _ _ _ _ _ _ _ _ (World.drew _)
   refine tkA 0 (.slice ao (2 * k) cp) rfl trivial ?_
   refine tkA 1 (.string ⟨#[48, 49, 50, 51, 52, 53, 54, 55, 56, 57, 97, 98, 99, 100, 101, 102]⟩) rfl trivial ?_
   refine tkA 2 (.string s) rfl trivial ?_
   refine tkA 3 (.int .i64 k) rfl trivial ?_
   refine tkA 4 (.int .u8 (b : Int)) rfl trivial ?_
   refine wpAnyH_take (i := 5) (v := .int .u8 ((b / 16 : Nat) : Int)) rfl (by kernel_rfl) (by kernel_rfl) (by kernel_rfl) (fun _ _ _ h => h) (.inl ⟨rfl, fun w' _ => by go_simp; rw [IntKind.wrap_u8]; omega⟩) trivial ?_
   refine wpAnyH_take (i := 6) (v := .int .u8 ((hx (b / 16)).toNat : Int)) rfl (by kernel_rfl) (by kernel_rfl) (by kernel_rfl) (fun _ _ _ h => h) (.inl ⟨rfl, fun w' _ => exec_index (t := 9) (x := .tmp 14) (i := .tmp 18) (s := ⟨#[48, 49, 50, 51, 52, 53, 54, 55, 56, 57, 97, 98, 99, 100, 101, 102]⟩) (k := .u8) (j := ((b / 16 : Nat) : Int)) (by rfl) (by go_simp) (by go_simp) (run_hex w' (b / 16) (by omega))⟩) trivial ?_
   refine tkA 7 (.string ⟨#[48, 49, 50, 51, 52, 53, 54, 55, 56, 57, 97, 98, 99, 100, 101, 102]⟩) rfl trivial ?_
   refine tkA 8 (.string s) rfl trivial ?_
   refine tkA 9 (.int .i64 k) rfl trivial ?_
   refine tkA 10 (.int .u8 (b : Int)) rfl trivial ?_
   refine wpAnyH_take (i := 11) (v := .int .u8 ((b % 16 : Nat) : Int)) rfl (by kernel_rfl) (by kernel_rfl) (by kernel_rfl) (fun _ _ _ h => h) (.inl ⟨rfl, fun w' _ => by go_simp; exact Int.tmod_eq_emod_of_nonneg (by omega)⟩) trivial ?_
   refine wpAnyH_take (i := 12) (v := .int .u8 ((hx (b % 16)).toNat : Int)) rfl (by kernel_rfl) (by kernel_rfl) (by kernel_rfl) (fun _ _ _ h => h) (.inl ⟨rfl, fun w' _ => exec_index (t := 9) (x := .tmp 20) (i := .tmp 24) (s := ⟨#[48, 49, 50, 51, 52, 53, 54, 55, 56, 57, 97, 98, 99, 100, 101, 102]⟩) (k := .u8) (j := ((b % 16 : Nat) : Int)) (by rfl) (by go_simp) (by go_simp) (run_hex w' (b % 16) (by omega))⟩) trivial ?_
   have HT := hid (hexL_take s k hlt)
   rw [← hb] at HT
   have HROW := hid hrow
   have HBL := hid hbl
   have hsz := hbl.size
   generalize ((hx (b / 16)).toNat : Int) = x1 at *
   generalize ((hx (b % 16)).toNat : Int) = x2 at *
   clear hrow hbl hb hb'
   refine held_one 13 (by kernel_rfl) (op_value (v := .slice (some ⟨wr.heap.size, 0, none⟩) 2 2) (w' := (wr.alloc (.cells #[.int .u8 x1, .int .u8 x2] 5)).drew) rfl rfl (by go_simp) ⟨trivial, ?_⟩)
   refine held_one 14 (by kernel_rfl) (op_wp rfl rfl (wp_append_lies _ (.tmp 13) (.tmp 26) 22 rfl w.heap.size 5 i0 (.int .u8 0) 1 1 Tryz.underlying22 hi hz0 hz1 hz2 rfl (by decide) (.slice ao (2 * k) cp) (2 * k) _ (by go_simp) (HROW.out.alloc _) ⟨wr.heap.size, 0, none⟩ 2 2 [.int .u8 x1, .int .u8 x2] (by go_simp) rfl (cell_two_new wr _ _) (by simp [Value.oneCell']) (by decide) (by unfold maxLen; omega) (by omega) (by simp; omega) (wr.heap.size + 1) (by simp) ?_))
   intro g' cap' w4 hown4 hgrow4 _ hlt4
   have HB4 := hid (append_below HBL.out HROW.out (o := .cells #[.int .u8 x1, .int .u8 x2] 5) ⟨hgrow4.os, hgrow4.tape, hgrow4.output, hgrow4.size, hgrow4.block⟩)
   have HOWN4 := hid hown4
   clear hown4 hgrow4
   refine ⟨trivial, held_one 15 (by kernel_rfl) (op_value (v := .slice (some ⟨g', 0, none⟩) (2 * k + 2) cap') (w' := w4) rfl rfl (by go_simp) ⟨trivial, wpAnyH_done (by kernel_rfl) ?_ _⟩)⟩
   go_simp
   go_wp2
   go_roundw
   case rel => exact ⟨k + 1, some ⟨g', 0, none⟩, cap', by omega, by go_num, rfl, by rw [HT.out]; exact HOWN4.out, HB4.out⟩
   case measure => simp [intOf]; omega
  ·obtain rfl : k = s.size := by omega
   have hcv := conv_bytes hrow
   have e : (s.data.toList.take s.size) = s.data.toList := take_all s s.size (by omega)
   rw [e] at hcv
   change _ = Result.ok (Value.string (hexB s)) wr at hcv
   have HBL := hid hbl
   clear hrow hbl e
   go_wp2
   go_ret
   exact ⟨rfl, HBL.out⟩
end Go.Proofs.YtkjdabnglcabiaaGreatDoor
/- spec.l3Ok and impl.isList say whether a list is valid for a width. -/
namespace Go.Proofs.YtkjdabnglcabiaaGreatDoor
open Go.RowKit
theorem all_true {ss : List ByteArray} {f : ByteArray → Bool} (h : ∀ i, i < ss.length → f (ss.getD i ByteArray.empty) = true) : ss.all f = true := by
 rw [List.all_eq_true]
 intro x hx
 obtain ⟨i, hi, rfl⟩ := List.getElem_of_mem hx
 have := h i hi
 rwa [List.getD_eq_getElem?_getD, List.getElem?_eq_getElem hi] at this
theorem all_false {ss : List ByteArray} {f : ByteArray → Bool} (i : Nat) (hi : i < ss.length) (h : f (ss.getD i ByteArray.empty) = false) : ss.all f = false := by
 rw [Bool.eq_false_iff]
 intro hc
 rw [List.all_eq_true] at hc
 have := hc _ (List.getElem_mem hi)
 rw [List.getD_eq_getElem?_getD, List.getElem?_eq_getElem hi] at h
 rw [Option.getD_some] at h
 rw [h] at this; cases this
/-- A list is valid for a width. -/
def okL (n : Int) (ss : List ByteArray) (m : Int) : Bool := isW m && (decide (0 ≤ n ∧ n ≤ 3000) && (decide (ss.length ≤ 375) && ss.all fun s => decide ((s.size : Int) = m)))
set_option maxRecDepth 100000 in
set_option maxHeartbeats 400000 in
theorem isSize_any (n : Int) (w : World) : Calls Tryz.prog 97 #[.int .i64 n] w fun e w' => e = .returned (.bool (decide (0 ≤ n ∧ n ≤ 3000))) ∧ w' = w := by
 by_cases h1 : 0 ≤ n
 ·by_cases h2 : n ≤ 3000
  ·go_enter Tryz.func97, Tryz.ntmps97
   go_wp2
   go_ret
   exact ⟨by simp [h1, h2], rfl⟩
  ·go_enter Tryz.func97, Tryz.ntmps97
   go_wp2
   go_ret
   exact ⟨by simp [h2], rfl⟩
 ·go_enter Tryz.func97, Tryz.ntmps97
  go_wp2
  go_ret
  exact ⟨by simp; omega, rfl⟩
set_option maxRecDepth 100000 in
set_option maxHeartbeats 1000000 in
theorem l3Ok_any (n : Int) (v : Value) (ss : List ByteArray) (m : Int) (w : World) (hv : Reads w v ss) (hl : ss.length ≤ maxLen) (hsz : ∀ i, (ss.getD i ByteArray.empty).size ≤ maxLen) :
  Calls Tryz.prog 52 #[.agg #[.int .i64 n, v], .int .i64 m] w fun e w' => e = .returned (.bool (okL n ss m)) ∧ Below w.heap.size w w' := by
 unfold maxLen at hl
 obtain ⟨a, ca, rfl, hca⟩ := hv.form
 have hbl := (Below.refl w.heap.size w).alloc (Nat.le_refl _) (.cells #[.int .i64 n, .slice a ss.length ca] 54)
 cases hw : isW m with
 | false =>
  have e : okL n ss m = false := by simp [okL, hw]
  rw [e]; clear e
  go_enter Tryz.func52, Tryz.ntmps52
  go_wp2_with (go_at_call 48; refine (l1Width_any _ _).mono ?_; rintro e w' ⟨rfl, rfl⟩)
  go_ret
  exact ⟨rfl, hbl⟩
 | true =>
  cases hn : decide (0 ≤ n ∧ n ≤ 3000) with
  | false =>
   have e : okL n ss m = false := by simp [okL, hw, hn]
   rw [e]; clear e
   go_enter Tryz.func52, Tryz.ntmps52
   go_wp2_with (first | (go_at_call 48; refine (l1Width_any _ _).mono ?_; rintro e w' ⟨rfl, rfl⟩) | (go_at_call 23; refine (l1In_any _ _ _ _).mono ?_; rintro e w' ⟨rfl, rfl⟩; rw [hn]))
   go_ret
   exact ⟨rfl, hbl⟩
  | true =>
   by_cases h375 : ss.length ≤ 375
   ·have e : okL n ss m = ss.all fun s => decide ((s.size : Int) = m) := by simp [okL, hw, hn, h375]
    rw [e]; clear e
    obtain ⟨B, hB⟩ : ∃ B, B = ss.all fun s => decide ((s.size : Int) = m) := ⟨_, rfl⟩
    rw [← hB]
    have HB := hid hB
    clear hB
    go_enter Tryz.func52, Tryz.ntmps52
    go_wp2_with (first | (go_at_call 48; refine (l1Width_any _ _).mono ?_; rintro e w' ⟨rfl, rfl⟩) | (go_at_call 23; refine (l1In_any _ _ _ _).mono ?_; rintro e w' ⟨rfl, rfl⟩; rw [hn]))
    go_loopw [5] (fun i wr => ∃ k : Nat, k ≤ ss.length ∧ i = .int .i64 k ∧ (∀ j, j < k → ((ss.getD j ByteArray.empty).size : Int) = m) ∧ wr = w.alloc (.cells #[.int .i64 n, .slice a ss.length ca] 54)) (fun i _ => ss.length - (intOf i).toNat)
    case atStart => exact ⟨0, Nat.zero_le _, rfl, fun j hj => absurd hj (by omega), rfl⟩
    case round =>
     obtain ⟨k, hk, rfl, hall, rfl⟩ := hrel
     by_cases hlt : k < ss.length
     ·obtain ⟨b1, o1, rfl, hb1, hc1⟩ := hca k hlt
      have hd1 := (hbl.cell (p := ⟨b1, o1 + k, none⟩) hb1).trans hc1
      have hz := hsz k
      by_cases hm : ((ss.getD k ByteArray.empty).size : Int) = m
      ·have HA : Hid (∀ j, j < k + 1 → ((ss.getD j ByteArray.empty).size : Int) = m) := fun j hj => by
        rcases Nat.lt_succ_iff_lt_or_eq.1 hj with h | rfl
        ·exact hall j h
        ·exact hm
       clear hall hca hc1
       generalize ss.getD k ByteArray.empty = s at *
       go_wp2
       go_roundw
       case rel => exact ⟨k + 1, by omega, by go_num, HA.out, trivial⟩
       case measure => simp [intOf]; omega
      ·have HF : Hid ((ss.all fun s => decide ((s.size : Int) = m)) = false) := all_false k hlt (by simpa using hm)
       clear hall hca hc1
       generalize ss.getD k ByteArray.empty = s at *
       go_wp2
       go_ret
       exact ⟨by rw [HB.out, HF.out]; rfl, hbl⟩
     ·obtain rfl : k = ss.length := by omega
      have HF : Hid ((ss.all fun s => decide ((s.size : Int) = m)) = true) := all_true fun i hi => by simpa using hall i hi
      clear hall hca
      go_wp2
      go_ret
      exact ⟨by rw [HB.out, HF.out]; rfl, hbl⟩
   ·have e : okL n ss m = false := by simp [okL, hw, hn, h375]
    rw [e]; clear e
    go_enter Tryz.func52, Tryz.ntmps52
    go_wp2_with (first | (go_at_call 48; refine (l1Width_any _ _).mono ?_; rintro e w' ⟨rfl, rfl⟩) | (go_at_call 23; refine (l1In_any _ _ _ _).mono ?_; rintro e w' ⟨rfl, rfl⟩; rw [hn]))
    go_ret
    exact ⟨rfl, hbl⟩
set_option maxRecDepth 100000 in
set_option maxHeartbeats 1000000 in
theorem isList_any (n : Int) (v : Value) (ss : List ByteArray) (m : Int) (w : World) (hv : Reads w v ss) (hl : ss.length ≤ maxLen) (hsz : ∀ i, (ss.getD i ByteArray.empty).size ≤ maxLen) :
  Calls Tryz.prog 74 #[.agg #[.int .i64 n, v], .int .i64 m] w fun e w' => e = .returned (.bool (okL n ss m)) ∧ Below w.heap.size w w' := by
 unfold maxLen at hl
 obtain ⟨a, ca, rfl, hca⟩ := hv.form
 have hbl := (Below.refl w.heap.size w).alloc (Nat.le_refl _) (.cells #[.int .i64 n, .slice a ss.length ca] 54)
 cases hw : isW m with
 | false =>
  have e : okL n ss m = false := by simp [okL, hw]
  rw [e]; clear e
  go_enter Tryz.func74, Tryz.ntmps74
  go_wp2_with (go_at_call 37; refine (isWidth_any _ _).mono ?_; rintro e w' ⟨rfl, rfl⟩)
  go_ret
  exact ⟨rfl, hbl⟩
 | true =>
  cases hn : decide (0 ≤ n ∧ n ≤ 3000) with
  | false =>
   have e : okL n ss m = false := by simp [okL, hw, hn]
   rw [e]; clear e
   go_enter Tryz.func74, Tryz.ntmps74
   go_wp2_with (first | (go_at_call 37; refine (isWidth_any _ _).mono ?_; rintro e w' ⟨rfl, rfl⟩) | (go_at_call 97; refine (isSize_any _ _).mono ?_; rintro e w' ⟨rfl, rfl⟩; rw [hn]))
   go_ret
   exact ⟨rfl, hbl⟩
  | true =>
   by_cases h375 : ss.length ≤ 375
   ·have e : okL n ss m = ss.all fun s => decide ((s.size : Int) = m) := by simp [okL, hw, hn, h375]
    rw [e]; clear e
    obtain ⟨B, hB⟩ : ∃ B, B = ss.all fun s => decide ((s.size : Int) = m) := ⟨_, rfl⟩
    rw [← hB]
    have HB := hid hB
    clear hB
    go_enter Tryz.func74, Tryz.ntmps74
    go_wp2_with (first | (go_at_call 37; refine (isWidth_any _ _).mono ?_; rintro e w' ⟨rfl, rfl⟩) | (go_at_call 97; refine (isSize_any _ _).mono ?_; rintro e w' ⟨rfl, rfl⟩; rw [hn]))
    go_loopw [25] (fun i wr => ∃ k : Nat, k ≤ ss.length ∧ i = .int .i64 k ∧ (∀ j, j < k → ((ss.getD j ByteArray.empty).size : Int) = m) ∧ wr = w.alloc (.cells #[.int .i64 n, .slice a ss.length ca] 54)) (fun i _ => ss.length - (intOf i).toNat)
    case atStart => exact ⟨0, Nat.zero_le _, rfl, fun j hj => absurd hj (by omega), rfl⟩
    case round =>
     obtain ⟨k, hk, rfl, hall, rfl⟩ := hrel
     by_cases hlt : k < ss.length
     ·obtain ⟨b1, o1, rfl, hb1, hc1⟩ := hca k hlt
      have hd1 := (hbl.cell (p := ⟨b1, o1 + k, none⟩) hb1).trans hc1
      have hz := hsz k
      by_cases hm : ((ss.getD k ByteArray.empty).size : Int) = m
      ·have HA : Hid (∀ j, j < k + 1 → ((ss.getD j ByteArray.empty).size : Int) = m) := fun j hj => by
        rcases Nat.lt_succ_iff_lt_or_eq.1 hj with h | rfl
        ·exact hall j h
        ·exact hm
       clear hall hca hc1
       generalize ss.getD k ByteArray.empty = s at *
       go_wp2
       go_roundw
       case rel => exact ⟨k + 1, by omega, by go_num, HA.out, trivial⟩
       case measure => simp [intOf]; omega
      ·have HF : Hid ((ss.all fun s => decide ((s.size : Int) = m)) = false) := all_false k hlt (by simpa using hm)
       clear hall hca hc1
       generalize ss.getD k ByteArray.empty = s at *
       go_wp2
       go_ret
       exact ⟨by rw [HB.out, HF.out]; rfl, hbl⟩
     ·obtain rfl : k = ss.length := by omega
      have HF : Hid ((ss.all fun s => decide ((s.size : Int) = m)) = true) := all_true fun i hi => by simpa using hall i hi
      clear hall hca
      go_wp2
      go_ret
      exact ⟨by rw [HB.out, HF.out]; rfl, hbl⟩
   ·have e : okL n ss m = false := by simp [okL, hw, hn, h375]
    rw [e]; clear e
    go_enter Tryz.func74, Tryz.ntmps74
    go_wp2_with (first | (go_at_call 37; refine (isWidth_any _ _).mono ?_; rintro e w' ⟨rfl, rfl⟩) | (go_at_call 97; refine (isSize_any _ _).mono ?_; rintro e w' ⟨rfl, rfl⟩; rw [hn]))
    go_ret
    exact ⟨rfl, hbl⟩
end Go.Proofs.YtkjdabnglcabiaaGreatDoor
/- spec.FormList writes a list. -/
namespace Go.Proofs.YtkjdabnglcabiaaGreatDoor
open Go.RowKit
/-- The form of a list, byte by byte. -/
def headL (n : Nat) : List UInt8 := [115, 105, 122, 101, 32] ++ Lib.decDigits n ++ [10]
def rowsL (ss : List ByteArray) : List UInt8 := ss.flatMap fun s => hexL s.data.toList ++ [10]
def formL (n : Nat) (ss : List ByteArray) : List UInt8 := headL n ++ rowsL ss
def formR (n : Int) (ss : List ByteArray) (m : Int) : ByteArray := if okL n ss m then ⟨(formL n.toNat ss).toArray⟩ else ⟨#[]⟩
theorem rowsL_take (ss : List ByteArray) (k : Nat) (h : k < ss.length) : rowsL (ss.take (k + 1)) = rowsL (ss.take k) ++ hexL (ss.getD k ByteArray.empty).data.toList ++ [10] := by
 unfold rowsL
 rw [List.take_add_one, List.flatMap_append, List.getElem?_eq_getElem h]
 simp [h]
theorem head_text (n : Nat) : (⟨#[115, 105, 122, 101, 32]⟩ : ByteArray) ++ decB n ++ ⟨#[10]⟩ = ⟨(headL n).toArray⟩ := by
 unfold decB headL
 have h1 := ByteArray.mk_append_mk [115, 105, 122, 101, 32] (Lib.decDigits n)
 have h2 := ByteArray.mk_append_mk ([115, 105, 122, 101, 32] ++ Lib.decDigits n) [10]
 exact (congrArg (fun x : ByteArray => x ++ ⟨#[10]⟩) h1).trans h2
/-- The form's first lines: how long, and as cells. -/
def fl (n : Nat) (ss : List ByteArray) (k : Nat) : Nat := (headL n ++ rowsL (ss.take k)).length
def fc (n : Nat) (ss : List ByteArray) (k : Nat) : List Value := Lib.byteCells (headL n ++ rowsL (ss.take k))
theorem cells_rows (n : Nat) (ss : List ByteArray) (k : Nat) (h : k < ss.length) : fc n ss (k + 1) = fc n ss k ++ Lib.strCells (hexB (ss.getD k ByteArray.empty)) ++ [.int .u8 10] := by
 unfold fc
 rw [rowsL_take ss k h]
 simp [Lib.byteCells, Lib.strCells, hexB]
theorem decB_len4 (n : Nat) (h : n ≤ 3000) : (Lib.decDigits n).length ≤ 3001 := by
 have := decB_len n n (Nat.le_refl _)
 have e : (decB n).size = (Lib.decDigits n).length := by
  show (Lib.decDigits n).toArray.size = _
  simp
 omega
theorem rowsL_len (m : Nat) : ∀ ss : List ByteArray, (∀ s ∈ ss, s.size ≤ m) → (rowsL ss).length ≤ ss.length * (2 * m + 1)
 | [], _ => by simp [rowsL]
 | s :: ss, h => by
  have ih := rowsL_len m ss (fun x hx => h x (by simp [hx]))
  have hs := h s (by simp)
  unfold rowsL at ih ⊢
  rw [List.flatMap_cons, List.length_append, List.length_append, hexL_len]
  have e : (s :: ss).length * (2 * m + 1) = ss.length * (2 * m + 1) + (2 * m + 1) := by rw [List.length_cons, Nat.add_mul, Nat.one_mul]
  have e2 : s.data.toList.length = s.size := by rw [Array.length_toList]; rfl
  rw [e, e2, List.length_cons, List.length_nil]
  generalize ss.length * (2 * m + 1) = X at *
  omega
theorem conv_mrow {w : World} {base n : Nat} {v : Value} {l : List UInt8} (h : MRow w base v n (Lib.byteCells l)) : (convert 22 9 v).run Tryz.prog w = .ok (.string ⟨l.toArray⟩) w := by
 obtain ⟨g, cap, rfl⟩ := h.form
 have e : Lib.byteCells l = (l.map fun b => (b.toNat : Int)).map (Value.int .u8) := by simp [Lib.byteCells]
 have hl : (l.map fun b => (b.toNat : Int)).length = n := by
  have := h.1
  rw [Lib.byteCells_length] at this
  simpa using this
 rw [← nums_bytes]
 refine run_convert_bytes_arg w 22 5 Tryz.underlying22 Tryz.underlying5 g 0 n cap _ hl (fun i hi => ?_) 9 Tryz.underlying9
 rw [Nat.zero_add]
 refine h.cell i _ ?_
 rw [e]
 have : i < (l.map fun b => (b.toNat : Int)).length := by omega
 simp only [List.length_map] at this
 simp [this]
set_option maxRecDepth 100000 in
set_option maxHeartbeats 1000000 in
theorem specFormList_any (n : Int) (v : Value) (ss : List ByteArray) (m : Int) (w : World) (hv : Reads w v ss) (hl : ss.length ≤ maxLen) (hsz : ∀ i, (ss.getD i ByteArray.empty).size ≤ maxLen) :
  Calls Tryz.prog 25 #[.agg #[.int .i64 n, v], .int .i64 m] w fun e w' => e = .returned (.string (formR n ss m)) ∧ Below w.heap.size w w' := by
 obtain ⟨i0, hi, hz0, hz1, hz2⟩ := info_parts Tryz.infoByte
 have hnew : LBox (w.alloc (.cells #[.int .i64 n, v] 54)) w.heap.size n v := World.alloc_heap_new w _
 have hb0 := (Below.refl w.heap.size w).alloc (Nat.le_refl _) (.cells #[.int .i64 n, v] 54)
 have HOK := hid (l3Ok_any n v ss m _ (hv.below hb0) hl hsz)
 have HS0 := hid (hv.below hb0)
 obtain ⟨a, ca, rfl, _⟩ := hv.form
 have HNEW := hid hnew
 have HB0 := hid hb0
 clear hv hnew hb0
 cases hok : okL n ss m with
 | false =>
  have e : formR n ss m = ⟨#[]⟩ := by simp [formR, hok]
  rw [e]; clear e
  rw [hok] at HOK
  go_enter Tryz.func25, Tryz.ntmps25
  go_wp2_with (go_at_call 52; refine HOK.out.mono ?_; rintro e w1 ⟨rfl, hb1⟩)
  go_ret
  exact ⟨rfl, HB0.out.trans (hb1.mono (by simp))⟩
 | true =>
  rw [hok] at HOK
  have hparts : isW m = true ∧ (0 ≤ n ∧ n ≤ 3000) ∧ ss.length ≤ 375 ∧ ∀ s ∈ ss, (s.size : Int) = m := by
   unfold okL at hok
   simp only [Bool.and_eq_true, decide_eq_true_eq, List.all_eq_true] at hok
   exact ⟨hok.1, hok.2.1, hok.2.2.1, hok.2.2.2⟩
  obtain ⟨hwm, ⟨h0, h3⟩, h375, hall⟩ := hparts
  obtain ⟨nn, rfl⟩ := Int.eq_ofNat_of_zero_le h0
  have hm8 : 1 ≤ m ∧ m ≤ 8 := by simpa [isW] using hwm
  have HRES : Hid (formR (nn : Int) ss m = ⟨(headL nn ++ rowsL ss).toArray⟩) := by
   show _ = _
   simp [formR, hok, formL]
  have HSZ : Hid (∀ k, k < ss.length → (ss.getD k ByteArray.empty).size ≤ 8) := fun k hk => by
   rw [List.getD_eq_getElem?_getD, List.getElem?_eq_getElem hk]
   have := hall _ (List.getElem_mem hk)
   simp only [Option.getD_some]
   omega
  have HLEN : Hid (∀ k, (headL nn ++ rowsL (ss.take k)).length ≤ 100000) := fun k => by
   have h1 := rowsL_len 8 (ss.take k) (fun s hs => by have := hall s (List.mem_of_mem_take hs); omega)
   have h2 := decB_len4 nn (by omega)
   have h4 : (ss.take k).length ≤ 375 := by rw [List.length_take]; omega
   rw [List.length_append]
   unfold headL
   simp only [List.length_append, List.length_cons, List.length_nil]
   have h5 : (ss.take k).length * (2 * 8 + 1) ≤ 375 * 17 := Nat.mul_le_mul h4 (by omega)
   omega
  obtain ⟨r, hr⟩ : ∃ r, r = formR (nn : Int) ss m := ⟨_, rfl⟩
  rw [← hr]
  rw [← hr] at HRES
  have HDEC := hid fun W => l3Dec_any nn nn W (Nat.le_refl _) (by omega)
  have hdz : (decB nn).size ≤ 3001 := by have := decB_len nn nn (Nat.le_refl _); omega
  have HHEAD := hid (head_text nn)
  clear hr hok hall hwm hsz
  generalize decB nn = dec at *
  go_enter Tryz.func25, Tryz.ntmps25
  go_wp2_with fail
  refine HOK.out.mono ?_
  rintro e w1 ⟨rfl, hb1⟩
  have x1 := HNEW.out.below hb1
  have hc0 := x1.c0
  have hc1 := x1.c1
  have HS1 := hid (HS0.out.below hb1)
  have HB1 := hid (HB0.out.trans (hb1.mono (by simp)))
  have HX1 := hid x1
  clear hb1 x1 HS0 HB0 HNEW HOK
  go_wp2_with fail
  refine (HDEC.out _).mono ?_
  rintro e w2 ⟨rfl, hb2⟩
  have x2 := HX1.out.below hb2
  have HS2 := hid (HS1.out.below hb2)
  have HB2 := hid (HB1.out.trans (hb2.mono HB1.out.size))
  obtain ⟨v3, w3, hcv, hrow3, hb3⟩ := conv_text (P := Tryz.prog) w2 9 22 ((⟨#[115, 105, 122, 101, 32]⟩ : ByteArray) ++ dec ++ ⟨#[10]⟩) Tryz.underlying9 Tryz.underlying22 Tryz.underlying5 (by rw [ByteArray.size_append, ByteArray.size_append]; show 5 + dec.size + 1 ≤ _; omega)
  have hS : Lib.strCells ((⟨#[115, 105, 122, 101, 32]⟩ : ByteArray) ++ dec ++ ⟨#[10]⟩) = fc nn ss 0 := by
   rw [HHEAD.out]
   simp [fc, Lib.strCells, Lib.byteCells, rowsL]
  rw [hS] at hrow3
  have hlen3 : ((⟨#[115, 105, 122, 101, 32]⟩ : ByteArray) ++ dec ++ ⟨#[10]⟩).size = fl nn ss 0 := by
   rw [HHEAD.out]
   show (headL nn).toArray.size = _
   simp [fl, rowsL]
  rw [hlen3] at hrow3
  obtain ⟨g3, cap3, rfl⟩ := hrow3.form
  have HROW3 := hid hrow3
  have HB3 := hid hb3
  have HX2 := hid x2
  have hzz : 5 + dec.size + 1 ≤ 9223372036854775807 := by omega
  clear hb2 x2 hrow3 hb3 hc0 hc1 hS hlen3 HHEAD
  go_wp2
  go_loopw [5, 6] (fun v i wr => ∃ (k g cp : Nat), k ≤ ss.length ∧ i = .int .i64 k ∧ v = .slice (some ⟨g, 0, none⟩) (fl nn ss k) cp ∧ MRow wr w2.heap.size v (fl nn ss k) (fc nn ss k) ∧ Below w2.heap.size w2 wr) (fun _ i _ => ss.length - (intOf i).toNat)
  case atStart => exact ⟨0, g3, cap3, Nat.zero_le _, rfl, rfl, HROW3.out, HB3.out⟩
  case round =>
   obtain ⟨k, g, cp, hk, rfl, rfl, hrow, hbl⟩ := hrel
   have xr := HX2.out.below hbl
   have hr0 := xr.c0
   have hr1 := xr.c1
   by_cases hlt : k < ss.length
   ·obtain ⟨_, _, e1, hcs⟩ := (HS2.out.below hbl).form
    simp only [Value.slice.injEq] at e1
    obtain ⟨rfl, _, rfl⟩ := e1
    obtain ⟨b1, o1, rfl, hb1, hd1⟩ := hcs k hlt
    have hs8 := HSZ.out k hlt
    have HHX := hid fun W => l3Hex_any (ss.getD k ByteArray.empty) W (by omega)
    have HC := hid (cells_rows nn ss k hlt)
    have hL : fl nn ss k ≤ 100000 := HLEN.out k
    have hLl : (hexB (ss.getD k ByteArray.empty)).size ≤ 16 := by
     show (hexL _).toArray.size ≤ 16
     rw [List.size_toArray, hexL_len, Array.length_toList]
     show 2 * (ss.getD k ByteArray.empty).size ≤ 16
     omega
    have HLL : Hid (fl nn ss (k + 1) = fl nn ss k + (hexB (ss.getD k ByteArray.empty)).size + 1) := by
     have e1 : ∀ j, (fc nn ss j).length = fl nn ss j := fun j => by unfold fc fl; rw [Lib.byteCells_length]
     have := congrArg List.length HC.out
     rw [List.length_append, List.length_append, e1, e1, Lib.strCells_length] at this
     exact this
    generalize ss.getD k ByteArray.empty = s at *
    generalize hexB s = hx at *
    generalize fl nn ss k = L at *
    generalize fc nn ss k = bc at *
    have HROW := hid hrow
    have HBL := hid hbl
    clear hrow hbl hcs
    go_wp2_with fail
    refine (HHX.out _).mono ?_
    rintro e w4 ⟨rfl, hb4⟩
    have hrow4 := HROW.out.below hb4
    have HROW4 := hid hrow4
    have HB4 := hid (HBL.out.trans (hb4.mono HBL.out.size))
    have hs4 := HB4.out.size
    clear hb4
    go_wp2_with (first
     | (at_builtin; refine wpList_append_text rfl _ _ 22 9 rfl w2.heap.size i0 Tryz.underlying22 Tryz.underlying9 hi hz0 hz1 hz2 _ L bc rfl hrow4 hx rfl (by omega) hs4 ?_; intro v5 w5 hown5 hgrow5; obtain ⟨g5, cp5, rfl⟩ := hown5.form; have HB5 := hid (HB4.out.grown hgrow5 hs4 (fun g e => (HROW4.out.lt g e).1)); have hs5 := HB5.out.size; have hown5a : ∀ o, MRow (w5.alloc o) w2.heap.size (.slice (some ⟨g5, 0, none⟩) (L + hx.size) cp5) (L + hx.size) (bc ++ Lib.strCells hx) := fun o => hown5.below ((Below.refl _ w5).alloc (Nat.le_refl _) o); clear hown5 hgrow5 hrow4)
     | (at_builtin; refine wpList_append_bytes rfl _ _ 22 rfl w2.heap.size i0 Tryz.underlying22 hi hz0 hz1 hz2 _ (L + hx.size) (bc ++ Lib.strCells hx) rfl (hown5a _) ⟨w5.heap.size, 0, none⟩ 1 1 [.int .u8 10] rfl rfl (cell_one_new _ _ _) (by simp [Value.oneCell']) (by omega) (by simp; omega) ?_; intro v6 w6 hown6 hgrow6))
    obtain ⟨g6, cp6, rfl⟩ := hown6.form
    have HB6 := hid ((HB5.out.alloc hs5 _).grown hgrow6 (by simp; omega) (fun g e => ((hown5a (.cells #[.int .u8 10] 5)).lt g e).1))
    have HOWN6 := hid hown6
    clear hown6 hgrow6 hown5a
    go_wp2
    go_roundw
    case rel => exact ⟨k + 1, g6, cp6, by omega, by go_num, by rw [HLL.out], by rw [HLL.out, HC.out]; exact HOWN6.out, HB6.out⟩
    case measure => simp [intOf]; omega
   ·obtain rfl : k = ss.length := by omega
    have hcvv := conv_mrow hrow
    rw [List.take_length] at hcvv
    have HBL := hid hbl
    clear hrow hbl xr
    go_wp2
    go_ret
    refine ⟨?_, HB2.out.trans (HBL.out.mono HB2.out.size)⟩
    rw [HRES.out]; rfl
end Go.Proofs.YtkjdabnglcabiaaGreatDoor
/- impl.digitsOf: two digits for each byte. -/
namespace Go.Proofs.YtkjdabnglcabiaaGreatDoor
open Go.RowKit
theorem and15 (b : Nat) (h : b < 256) : bits BinOp.and IntKind.u8 (b : Int) 15 = (b : Int) % 16 :=
 (show ∀ x : Fin 256, bits BinOp.and IntKind.u8 (x.val : Int) 15 = (x.val : Int) % 16 by decide +kernel) ⟨b, h⟩
set_option maxRecDepth 100000 in
set_option maxHeartbeats 1000000 in
theorem digitsOf_any (s : ByteArray) (w : World) (hs : s.size ≤ 1048576) :
  Calls Tryz.prog 77 #[.string s] w fun e w' => e = .returned (.string (hexB s)) ∧ Below w.heap.size w w' := by
 obtain ⟨i0, hi, hz0, hz1, hz2⟩ := info_parts Tryz.infoByte
 obtain ⟨w1, hmk, hr1, hg1⟩ := run_make_own (P := Tryz.prog) w w.heap.size 22 5 i0 (.int .u8 0) 1 Tryz.underlying22 hi hz0 hz1 .i64 .i64 (2 * s.size) (by rw [hz2]; omega) (by unfold maxLen; omega) (Nat.le_refl _)
 rw [show ((2 * s.size : Nat) : Int) = 2 * (s.size : Int) by omega] at hmk
 have HR1 := hid hr1
 have HG1 : Hid (Below w.heap.size w w1) := ⟨hg1.os, hg1.tape, hg1.output, hg1.size, fun k hk => hg1.block k hk (by simp)⟩
 clear hr1 hg1
 go_enter Tryz.func77, Tryz.ntmps77
 go_wp2
 go_loopw [3, 4] (fun v i wr => ∃ (k : Nat) (ao : Option Addr) (cp : Nat), k ≤ s.size ∧ i = .int .i64 k ∧ v = .slice ao (2 * k) cp ∧ wr.ownsRow w.heap.size 5 1 v (2 * k) (Lib.byteCells (hexL (s.data.toList.take k))) ∧ Below w.heap.size w wr) (fun _ i _ => s.size - (intOf i).toNat)
 case atStart => exact ⟨0, _, _, Nat.zero_le _, rfl, rfl, HR1.out, HG1.out⟩
 case round =>
  obtain ⟨k, ao, cp, hk, rfl, rfl, hrow, hbl⟩ := hrel
  by_cases hlt : k < s.size
  ·have hk0 : (0 : Int) ≤ (k : Int) := by omega
   have hk1 : (k : Int) < (s.size : Int) := by omega
   obtain ⟨b, hb⟩ : ∃ b : Nat, b = s[k].toNat := ⟨_, rfl⟩
   have hb256 : b < 256 := by rw [hb]; exact UInt8.toNat_lt _
   have hb' : (s[k].toNat : Int) = (b : Int) := by rw [hb]
   go_wp2_with fail
   refine wp_region_held (S := fun _ => True) (by kernel_rfl) ?_
   change wpAnyH _ _ _ _ _ _ _ _ (World.drew _)
   refine tkA 0 (.slice ao (2 * k) cp) rfl trivial ?_
   refine tkA 1 (.string s) rfl trivial ?_
   refine tkA 2 (.int .i64 k) rfl trivial ?_
   refine tkA 3 (.int .u8 (b : Int)) rfl trivial ?_
   refine tkA 4 (.int .u8 ((b / 16 : Nat) : Int)) rfl trivial ?_
   refine wpAnyH_take (i := 5) (v := .int .u8 ((hx (b / 16)).toNat : Int)) rfl (by kernel_rfl) (by kernel_rfl) (by kernel_rfl) (fun _ _ _ h => h) (.inl ⟨rfl, fun w' _ => exec_index (t := 9) (x := .const (.string ⟨#[48, 49, 50, 51, 52, 53, 54, 55, 56, 57, 97, 98, 99, 100, 101, 102]⟩)) (i := .tmp 19) (s := ⟨#[48, 49, 50, 51, 52, 53, 54, 55, 56, 57, 97, 98, 99, 100, 101, 102]⟩) (k := .u8) (j := ((b / 16 : Nat) : Int)) (by rfl) (by go_simp) (by go_simp) (run_hex w' (b / 16) (by omega))⟩) trivial ?_
   refine tkA 6 (.string s) rfl trivial ?_
   refine tkA 7 (.int .i64 k) rfl trivial ?_
   refine tkA 8 (.int .u8 (b : Int)) rfl trivial ?_
   refine wpAnyH_take (i := 9) (v := .int .u8 ((b % 16 : Nat) : Int)) rfl (by kernel_rfl) (by kernel_rfl) (by kernel_rfl) (fun _ _ _ h => h) (.inl ⟨rfl, fun w' _ => by go_simp; exact and15 b hb256⟩) trivial ?_
   refine wpAnyH_take (i := 10) (v := .int .u8 ((hx (b % 16)).toNat : Int)) rfl (by kernel_rfl) (by kernel_rfl) (by kernel_rfl) (fun _ _ _ h => h) (.inl ⟨rfl, fun w' _ => exec_index (t := 9) (x := .const (.string ⟨#[48, 49, 50, 51, 52, 53, 54, 55, 56, 57, 97, 98, 99, 100, 101, 102]⟩)) (i := .tmp 24) (s := ⟨#[48, 49, 50, 51, 52, 53, 54, 55, 56, 57, 97, 98, 99, 100, 101, 102]⟩) (k := .u8) (j := ((b % 16 : Nat) : Int)) (by rfl) (by go_simp) (by go_simp) (run_hex w' (b % 16) (by omega))⟩) trivial ?_
   have HT := hid (hexL_take s k hlt)
   rw [← hb] at HT
   have HROW := hid hrow
   have HBL := hid hbl
   have hsz := hbl.size
   generalize ((hx (b / 16)).toNat : Int) = x1 at *
   generalize ((hx (b % 16)).toNat : Int) = x2 at *
   clear hrow hbl hb hb'
   refine held_one 11 (by kernel_rfl) (op_value (v := .slice (some ⟨wr.heap.size, 0, none⟩) 2 2) (w' := (wr.alloc (.cells #[.int .u8 x1, .int .u8 x2] 5)).drew) rfl rfl (by go_simp) ⟨trivial, ?_⟩)
   refine held_one 12 (by kernel_rfl) (op_wp rfl rfl (wp_append_lies _ (.tmp 15) (.tmp 26) 22 rfl w.heap.size 5 i0 (.int .u8 0) 1 1 Tryz.underlying22 hi hz0 hz1 hz2 rfl (by decide) (.slice ao (2 * k) cp) (2 * k) _ (by go_simp) (HROW.out.alloc _) ⟨wr.heap.size, 0, none⟩ 2 2 [.int .u8 x1, .int .u8 x2] (by go_simp) rfl (cell_two_new wr _ _) (by simp [Value.oneCell']) (by decide) (by unfold maxLen; omega) (by omega) (by simp; omega) (wr.heap.size + 1) (by simp) ?_))
   intro g' cap' w4 hown4 hgrow4 _ hlt4
   have HB4 := hid (append_below HBL.out HROW.out (o := .cells #[.int .u8 x1, .int .u8 x2] 5) ⟨hgrow4.os, hgrow4.tape, hgrow4.output, hgrow4.size, hgrow4.block⟩)
   have HOWN4 := hid hown4
   clear hown4 hgrow4
   refine ⟨trivial, held_one 13 (by kernel_rfl) (op_value (v := .slice (some ⟨g', 0, none⟩) (2 * k + 2) cap') (w' := w4) rfl rfl (by go_simp) ⟨trivial, wpAnyH_done (by kernel_rfl) ?_ _⟩)⟩
   go_simp
   go_wp2
   go_roundw
   case rel => exact ⟨k + 1, some ⟨g', 0, none⟩, cap', by omega, by go_num, rfl, by rw [HT.out]; exact HOWN4.out, HB4.out⟩
   case measure => simp [intOf]; omega
  ·obtain rfl : k = s.size := by omega
   have hcv := conv_bytes hrow
   have e : (s.data.toList.take s.size) = s.data.toList := take_all s s.size (by omega)
   rw [e] at hcv
   change _ = Result.ok (Value.string (hexB s)) wr at hcv
   have HBL := hid hbl
   clear hrow hbl e
   go_wp2
   go_ret
   exact ⟨rfl, HBL.out⟩
end Go.Proofs.YtkjdabnglcabiaaGreatDoor
