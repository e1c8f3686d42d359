/- spec.l3Hex and impl.digitsOf: two digits for each byte. -/
import Derived.Test.YtooodilbehnnfaaDoorDec
import Derived.Test.YtooodilbehnnfaaDoorSums
import Derived.Lib.AppendStr
import Derived.Lib.UnsafeStr
namespace Go.Proofs.YtooodilbehnnfaaDoor
open Go.RowKit
def hexD : List UInt8 := [48, 49, 50, 51, 52, 53, 54, 55, 56, 57, 97, 98, 99, 100, 101, 102]
def hx (j : Nat) : UInt8 := hexD.getD j 0
def hexL (l : List UInt8) : List UInt8 := l.flatMap fun b => [hx (b.toNat / 16), hx (b.toNat % 16)]
def hexB (s : ByteArray) : ByteArray := ⟨(hexL s.data.toList).toArray⟩
theorem hexL_len : ∀ l : List UInt8, (hexL l).length = 2 * l.length
  | [] => rfl
  | b :: l => by
    have := hexL_len l
    unfold hexL at this ⊢
    rw [List.flatMap_cons, List.length_append, this]
    simp; omega
theorem hexL_snoc (l : List UInt8) (b : UInt8) : hexL (l ++ [b]) = hexL l ++ [hx (b.toNat / 16), hx (b.toNat % 16)] := by
  unfold hexL; rw [List.flatMap_append]; simp
theorem lt16 {P : Nat → Prop} (h : P 0 ∧ P 1 ∧ P 2 ∧ P 3 ∧ P 4 ∧ P 5 ∧ P 6 ∧ P 7 ∧ P 8 ∧ P 9 ∧ P 10 ∧ P 11 ∧ P 12 ∧ P 13 ∧ P 14 ∧ P 15) (j : Nat) (hj : j < 16) : P j := by
  obtain ⟨h0, h1, h2, h3, h4, h5, h6, h7, h8, h9, h10, h11, h12, h13, h14, h15⟩ := h
  have : j = 0 ∨ j = 1 ∨ j = 2 ∨ j = 3 ∨ j = 4 ∨ j = 5 ∨ j = 6 ∨ j = 7 ∨ j = 8 ∨ j = 9 ∨ j = 10 ∨ j = 11 ∨ j = 12 ∨ j = 13 ∨ j = 14 ∨ j = 15 := by omega
  rcases this with rfl | rfl | rfl | rfl | rfl | rfl | rfl | rfl | rfl | rfl | rfl | rfl | rfl | rfl | rfl | rfl <;> assumption
theorem run_hex (W : World) (j : Nat) (hj : j < 16) : (Instr.index 9 (.string ⟨#[48, 49, 50, 51, 52, 53, 54, 55, 56, 57, 97, 98, 99, 100, 101, 102]⟩) (.int .u8 (j : Int))).run Tryd.prog W = .ok (.int .u8 ((hx j).toNat : Int)) W :=
  lt16 (P := fun j => (Instr.index 9 (.string ⟨#[48, 49, 50, 51, 52, 53, 54, 55, 56, 57, 97, 98, 99, 100, 101, 102]⟩) (.int .u8 (j : Int))).run Tryd.prog W = .ok (.int .u8 ((hx j).toNat : Int)) W)
    ⟨by kernel_rfl, by kernel_rfl, by kernel_rfl, by kernel_rfl, by kernel_rfl, by kernel_rfl, by kernel_rfl, by kernel_rfl, by kernel_rfl, by kernel_rfl, by kernel_rfl, by kernel_rfl, by kernel_rfl, by kernel_rfl, by kernel_rfl, by kernel_rfl⟩ j hj
theorem exec_index {P : Program} {a : Act} {o : Oper} {t : TypeId} {x i : Operand} {s : ByteArray} {k : IntKind} {j : Int} {v : Value} {w : World} (ho : o.op = .index t x i) (hx : a.eval x = .string s) (hi : a.eval i = .int k j)
    (h : (Instr.index t (.string s) (.int k j)).run P w = .ok v w) : (execOp a.eval o).run P w = .ok (.value v) w := by
  unfold execOp
  simp only [ho, hx, hi, Sem.run_bind, Sem.run_pure, Result.andThen_ok, h]
theorem cell_two_new (W : World) (x y : Value) (j : Nat) (u : Value) (h : [x, y][j]? = some u) : (W.alloc (.cells #[x, y] 5)).drew.cell? ((⟨W.heap.size, 0, none⟩ : Addr).add j) = some u := by
  have hn : (W.alloc (.cells #[x, y] 5)).drew.heap[W.heap.size]? = some (.cells #[x, y] 5 (0, 0)) := World.alloc_heap_new W _
  have ea : (⟨W.heap.size, 0, none⟩ : Addr).add j = ⟨W.heap.size, j, none⟩ := by simp [Addr.add]; omega
  rw [ea, cell_of_heap hn]
  simpa using h
theorem Tryd.infoByte : (Tryd.prog.info? 5).map (fun i => (i.zero, i.size, i.bytes)) = some (some (.int .u8 0), 1, 1) := by kernel_rfl
theorem hexL_take (s : ByteArray) (k : Nat) (h : k < s.size) : Lib.byteCells (hexL (s.data.toList.take (k + 1))) = Lib.byteCells (hexL (s.data.toList.take k)) ++ [.int .u8 ((hx (s[k].toNat / 16)).toNat : Int), .int .u8 ((hx (s[k].toNat % 16)).toNat : Int)] := by
  rw [take_snoc s k h, hexL_snoc]
  simp [Lib.byteCells]
theorem row_shape5 {w : World} {base n : Nat} {e : TypeId} {v : Value} {xs : List Value} (h : w.ownsRow base e 1 v n xs) : ∃ a cap, v = .slice a n cap := by
  rcases h with ⟨_, ⟨rfl, rfl⟩ | ⟨g, cap, cur, rfl, hb, _⟩⟩
  · exact ⟨none, 0, rfl⟩
  · exact ⟨_, cap, rfl⟩
theorem nums_bytes (l : List UInt8) : strOfNums (l.map fun b => (b.toNat : Int)) = ⟨l.toArray⟩ := by
  unfold strOfNums
  rw [List.map_map]
  have : ((fun n : Int => UInt8.ofNat n.toNat) ∘ fun b : UInt8 => (b.toNat : Int)) = id := by funext b; simp
  rw [this, List.map_id]
theorem conv_bytes {w : World} {base k : Nat} {v : Value} {l : List UInt8} (h : w.ownsRow base 5 1 v k (Lib.byteCells l)) :
    (convert 33 9 v).run Tryd.prog w = .ok (.string ⟨l.toArray⟩) w := by
  have e : Lib.byteCells l = (l.map fun b => (b.toNat : Int)).map (Value.int .u8) := by simp [Lib.byteCells]
  rw [e] at h
  rw [← nums_bytes]
  generalize (l.map fun b => (b.toNat : Int)) = ys at *
  have hl : ys.length = k := by have := h.1; simpa using this
  rcases h with ⟨h1, ⟨rfl, rfl⟩ | ⟨g, cap, cur, rfl, hb, hg, hn, hm, hs, hx⟩⟩
  · have : ys = [] := List.eq_nil_of_length_eq_zero hl
    subst this
    exact run_convert_bytes_nil w 33 5 Tryd.underlying33 Tryd.underlying5 0 0 9 Tryd.underlying9
  · have hr : w.ownsRow base 5 1 (.slice (some ⟨g, 0, none⟩) k cap) k (ys.map (Value.int .u8)) := ⟨h1, .inr ⟨g, cap, cur, rfl, hb, hg, hn, hm, hs, hx⟩⟩
    refine run_convert_bytes_arg w 33 5 Tryd.underlying33 Tryd.underlying5 g 0 k cap ys hl (fun i hi => ?_) 9 Tryd.underlying9
    rw [Nat.zero_add, hr.cellAt i (by omega)]
    have : i < ys.length := by omega
    simp [this]
set_option maxRecDepth 100000 in
set_option maxHeartbeats 1000000 in
theorem l3Hex_any (s : ByteArray) (w : World) (hs : s.size ≤ 1048576) :
    Calls Tryd.prog 20 #[.string s] w fun e w' => e = .returned (.string (hexB s)) ∧ Below w.heap.size w w' := by
  obtain ⟨i0, hi, hz0, hz1, hz2⟩ := info_parts Tryd.infoByte
  go_enter Tryd.func20, Tryd.ntmps20
  go_wp2
  go_loopw [4, 5] (fun v i wr => ∃ (k : Nat) (ao : Option Addr) (cp : Nat), k ≤ s.size ∧ i = .int .i64 k ∧ v = .slice ao (2 * k) cp ∧ wr.ownsRow w.heap.size 5 1 v (2 * k) (Lib.byteCells (hexL (s.data.toList.take k))) ∧ Below w.heap.size w wr) (fun _ i _ => s.size - (intOf i).toNat)
  case atStart => exact ⟨0, _, _, Nat.zero_le _, rfl, rfl, World.ownsRow_made w #[] 0 (Nat.le_refl _) (by simp [maxLen]) rfl, (Below.refl _ _).alloc (Nat.le_refl _) _⟩
  case round =>
    obtain ⟨k, ao, cp, hk, rfl, rfl, hrow, hbl⟩ := hrel
    by_cases hlt : k < s.size
    · have hk0 : (0 : Int) ≤ (k : Int) := by omega
      have hk1 : (k : Int) < (s.size : Int) := by omega
      obtain ⟨b, hb⟩ : ∃ b : Nat, b = s[k].toNat := ⟨_, rfl⟩
      have hb256 : b < 256 := by rw [hb]; exact UInt8.toNat_lt _
      have hb' : (s[k].toNat : Int) = (b : Int) := by rw [hb]
      go_wp2_with fail
      refine wp_region_held (S := fun _ => True) (by kernel_rfl) ?_
      change wpAnyH _ _ _ _ _ _ _ _ (World.drew _)
      refine wpAnyH_take (i := 0) (v := .slice ao (2 * k) cp) rfl (by kernel_rfl) (by kernel_rfl) (by kernel_rfl) (fun _ _ _ h => h) (.inl ⟨rfl, fun w' _ => by go_simp⟩) trivial ?_
      refine wpAnyH_take (i := 1) (v := .string ⟨#[48, 49, 50, 51, 52, 53, 54, 55, 56, 57, 97, 98, 99, 100, 101, 102]⟩) rfl (by kernel_rfl) (by kernel_rfl) (by kernel_rfl) (fun _ _ _ h => h) (.inl ⟨rfl, fun w' _ => by go_simp⟩) trivial ?_
      refine wpAnyH_take (i := 2) (v := .string s) rfl (by kernel_rfl) (by kernel_rfl) (by kernel_rfl) (fun _ _ _ h => h) (.inl ⟨rfl, fun w' _ => by go_simp⟩) trivial ?_
      refine wpAnyH_take (i := 3) (v := .int .i64 k) rfl (by kernel_rfl) (by kernel_rfl) (by kernel_rfl) (fun _ _ _ h => h) (.inl ⟨rfl, fun w' _ => by go_simp⟩) trivial ?_
      refine wpAnyH_take (i := 4) (v := .int .u8 (b : Int)) rfl (by kernel_rfl) (by kernel_rfl) (by kernel_rfl) (fun _ _ _ h => h) (.inl ⟨rfl, fun w' _ => by go_simp⟩) trivial ?_
      refine wpAnyH_take (i := 5) (v := .int .u8 ((b / 16 : Nat) : Int)) rfl (by kernel_rfl) (by kernel_rfl) (by kernel_rfl) (fun _ _ _ h => h) (.inl ⟨rfl, fun w' _ => by go_simp; rw [IntKind.wrap_u8]; omega⟩) trivial ?_
      refine wpAnyH_take (i := 6) (v := .int .u8 ((hx (b / 16)).toNat : Int)) rfl (by kernel_rfl) (by kernel_rfl) (by kernel_rfl) (fun _ _ _ h => h) (.inl ⟨rfl, fun w' _ => exec_index (t := 9) (x := .tmp 14) (i := .tmp 18) (s := ⟨#[48, 49, 50, 51, 52, 53, 54, 55, 56, 57, 97, 98, 99, 100, 101, 102]⟩) (k := .u8) (j := ((b / 16 : Nat) : Int)) (by rfl) (by go_simp) (by go_simp) (run_hex w' (b / 16) (by omega))⟩) trivial ?_
      refine wpAnyH_take (i := 7) (v := .string ⟨#[48, 49, 50, 51, 52, 53, 54, 55, 56, 57, 97, 98, 99, 100, 101, 102]⟩) rfl (by kernel_rfl) (by kernel_rfl) (by kernel_rfl) (fun _ _ _ h => h) (.inl ⟨rfl, fun w' _ => by go_simp⟩) trivial ?_
      refine wpAnyH_take (i := 8) (v := .string s) rfl (by kernel_rfl) (by kernel_rfl) (by kernel_rfl) (fun _ _ _ h => h) (.inl ⟨rfl, fun w' _ => by go_simp⟩) trivial ?_
      refine wpAnyH_take (i := 9) (v := .int .i64 k) rfl (by kernel_rfl) (by kernel_rfl) (by kernel_rfl) (fun _ _ _ h => h) (.inl ⟨rfl, fun w' _ => by go_simp⟩) trivial ?_
      refine wpAnyH_take (i := 10) (v := .int .u8 (b : Int)) rfl (by kernel_rfl) (by kernel_rfl) (by kernel_rfl) (fun _ _ _ h => h) (.inl ⟨rfl, fun w' _ => by go_simp⟩) trivial ?_
      refine wpAnyH_take (i := 11) (v := .int .u8 ((b % 16 : Nat) : Int)) rfl (by kernel_rfl) (by kernel_rfl) (by kernel_rfl) (fun _ _ _ h => h) (.inl ⟨rfl, fun w' _ => by go_simp; exact Int.tmod_eq_emod_of_nonneg (by omega)⟩) trivial ?_
      refine wpAnyH_take (i := 12) (v := .int .u8 ((hx (b % 16)).toNat : Int)) rfl (by kernel_rfl) (by kernel_rfl) (by kernel_rfl) (fun _ _ _ h => h) (.inl ⟨rfl, fun w' _ => exec_index (t := 9) (x := .tmp 20) (i := .tmp 24) (s := ⟨#[48, 49, 50, 51, 52, 53, 54, 55, 56, 57, 97, 98, 99, 100, 101, 102]⟩) (k := .u8) (j := ((b % 16 : Nat) : Int)) (by rfl) (by go_simp) (by go_simp) (run_hex w' (b % 16) (by omega))⟩) trivial ?_
      have HT := hid (hexL_take s k hlt)
      rw [← hb] at HT
      have HROW := hid hrow
      have HBL := hid hbl
      have hsz := hbl.size
      generalize ((hx (b / 16)).toNat : Int) = x1 at *
      generalize ((hx (b % 16)).toNat : Int) = x2 at *
      clear hrow hbl hb hb'
      refine held_one 13 (by kernel_rfl) (op_value (v := .slice (some ⟨wr.heap.size, 0, none⟩) 2 2) (w' := (wr.alloc (.cells #[.int .u8 x1, .int .u8 x2] 5)).drew) rfl rfl (by go_simp) ⟨trivial, ?_⟩)
      refine held_one 14 (by kernel_rfl) (op_wp rfl rfl (wp_append_lies _ (.tmp 13) (.tmp 26) 33 rfl w.heap.size 5 i0 (.int .u8 0) 1 1 Tryd.underlying33 hi hz0 hz1 hz2 rfl (by decide) (.slice ao (2 * k) cp) (2 * k) _ (by go_simp) (HROW.out.alloc _) ⟨wr.heap.size, 0, none⟩ 2 2 [.int .u8 x1, .int .u8 x2] (by go_simp) rfl (cell_two_new wr _ _) (by simp [Value.oneCell']) (by decide) (by unfold maxLen; omega) (by omega) (by simp; omega) (wr.heap.size + 1) (by simp) ?_))
      intro g' cap' w4 hown4 hgrow4 _ hlt4
      have HB4 := hid (append_below HBL.out HROW.out (o := .cells #[.int .u8 x1, .int .u8 x2] 5) ⟨hgrow4.os, hgrow4.tape, hgrow4.output, hgrow4.size, hgrow4.block⟩)
      have HOWN4 := hid hown4
      clear hown4 hgrow4
      refine ⟨trivial, held_one 15 (by kernel_rfl) (op_value (v := .slice (some ⟨g', 0, none⟩) (2 * k + 2) cap') (w' := w4) rfl rfl (by go_simp) ⟨trivial, wpAnyH_done (by kernel_rfl) ?_ _⟩)⟩
      go_simp
      go_wp2
      go_roundw
      case rel => exact ⟨k + 1, some ⟨g', 0, none⟩, cap', by omega, by go_num, rfl, by rw [HT.out]; exact HOWN4.out, HB4.out⟩
      case measure => simp [intOf]; omega
    · obtain rfl : k = s.size := by omega
      have hcv := conv_bytes hrow
      have e : (s.data.toList.take s.size) = s.data.toList := take_all s s.size (by omega)
      rw [e] at hcv
      change _ = Result.ok (Value.string (hexB s)) wr at hcv
      have HBL := hid hbl
      clear hrow hbl e
      go_wp2
      go_ret
      exact ⟨rfl, HBL.out⟩
end Go.Proofs.YtooodilbehnnfaaDoor
