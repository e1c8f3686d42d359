/- spec.l6Mix: the sum of texts put together. -/
import Derived.Test.YtnpfnafalkejnaaOrder
import Derived.Test.YtnpfnafalkejnaaCut
import Derived.Test.YtnpfnafalkejnaaSum
import Derived.Lib.AppendStr
namespace Go.Proofs.Ytnpfnafalkejnaa
open Go.RowKit
theorem Try.info5m : (Try.prog.info? 5).map (fun i => (i.zero, i.size, i.bytes)) = some (some (.int .u8 0), 1, 1) := by kernel_rfl
theorem nums_textM (l : List UInt8) : strOfNums (l.map fun b => (b.toNat : Int)) = ⟨l.toArray⟩ := by
  unfold strOfNums
  rw [List.map_map]
  have : ((fun n : Int => UInt8.ofNat n.toNat) ∘ fun b : UInt8 => (b.toNat : Int)) = id := by funext b; simp
  rw [this, List.map_id]
theorem conv_cellsM {w : World} {base k : Nat} {v : Value} {l : List UInt8} (h : w.ownsRow base 5 1 v k (Lib.byteCells l)) :
    (convert 53 9 v).run Try.prog w = .ok (.string ⟨l.toArray⟩) w := by
  have e : Lib.byteCells l = (l.map fun b => (b.toNat : Int)).map (Value.int .u8) := by simp [Lib.byteCells]
  rw [e] at h
  rw [← nums_textM]
  generalize (l.map fun b => (b.toNat : Int)) = ys at *
  have hl : ys.length = k := by have := h.1; simpa using this
  rcases h with ⟨h1, ⟨rfl, rfl⟩ | ⟨g, cap, cur, rfl, hb, hg, hn, hm, hs, hx⟩⟩
  · have : ys = [] := List.eq_nil_of_length_eq_zero hl
    subst this
    exact run_convert_bytes_nil w 53 5 Try.underlying53 Try.underlying5 0 0 9 Try.underlying9
  · have hr : w.ownsRow base 5 1 (.slice (some ⟨g, 0, none⟩) k cap) k (ys.map (Value.int .u8)) := ⟨h1, .inr ⟨g, cap, cur, rfl, hb, hg, hn, hm, hs, hx⟩⟩
    refine run_convert_bytes_arg w 53 5 Try.underlying53 Try.underlying5 g 0 k cap ys hl (fun i hi => ?_) 9 Try.underlying9
    rw [Nat.zero_add, hr.cellAt i (by omega)]
    have : i < ys.length := by omega
    simp [this]
theorem row_formM {w : World} {base n : Nat} {e : TypeId} {v : Value} {xs : List Value} (h : w.ownsRow base e 1 v n xs) : ∃ a cap, v = .slice a n cap := by
  rcases h with ⟨_, ⟨rfl, rfl⟩ | ⟨g, cap, cur, rfl, hb, _⟩⟩
  · exact ⟨none, 0, rfl⟩
  · exact ⟨_, cap, rfl⟩
theorem joinB_take (ts : List ByteArray) (k : Nat) (h : k < ts.length) : joinB (ts.take (k + 1)) = joinB (ts.take k) ++ (tv ts k).data.toList := by
  have e : tv ts k = ts[k] := by simp [tv, h]
  rw [e]
  unfold joinB
  rw [List.take_succ_eq_append_getElem h, List.map_append, List.flatten_append]
  simp
/-- The sum of texts put together. -/
def mixB (n : Int) (ts : List ByteArray) : ByteArray := ⟨(sumOf (joinB ts) n).toArray⟩
set_option maxRecDepth 100000 in
set_option maxHeartbeats 1000000 in
theorem l6Mix_any (v : Value) (ts : List ByteArray) (n : Int) (w : World) (hv : Reads w v ts) (hl : ts.length ≤ 500) (hsz : ∀ t ∈ ts, t.size ≤ 8) :
    Calls Try.prog 24 #[v, .int .i64 n] w fun e w' => e = .returned (.string (mixB n ts)) ∧ Below w.heap.size w w' := by
  obtain ⟨i0, hi, hz0, hz1, hz2⟩ := info_parts Try.info5m
  obtain ⟨a, ca, rfl, hca⟩ := hv.form
  have HC : Hid (∀ i, i < ts.length → ∃ b off, a = some ⟨b, off, none⟩ ∧ b < w.heap.size ∧ w.cell? ⟨b, off + i, none⟩ = some (.string (tv ts i))) := hca
  have HZ := hid hsz
  clear hca hv hsz
  go_enter Try.func24, Try.ntmps24
  go_wp2
  go_loopw [5, 6] (fun v' i wr => ∃ k : Nat, k ≤ ts.length ∧ i = .int .i64 k ∧ wr.ownsRow w.heap.size 5 1 v' (joinB (ts.take k)).length (Lib.byteCells (joinB (ts.take k))) ∧ Below w.heap.size w wr) (fun _ i _ => ts.length - (intOf i).toNat)
  case atStart => exact ⟨0, Nat.zero_le _, rfl, World.ownsRow_made w #[] 0 (Nat.le_refl _) (by simp [maxLen]) rfl, (Below.refl _ _).alloc (Nat.le_refl _) _⟩
  case round =>
    obtain ⟨k, hk, rfl, hown, hb⟩ := hrel
    by_cases hlt : k < ts.length
    · obtain ⟨b1, o1, rfl, hb1, hc1⟩ := HC.out k hlt
      have hd1 := (hb.cell (p := ⟨b1, o1 + k, none⟩) hb1).trans hc1
      have hjl : (joinB (ts.take k)).length ≤ 4000 := Nat.le_trans (joinB_len 8 _ fun t ht => HZ.out t (List.mem_of_mem_take ht)) (by rw [List.length_take]; omega)
      have hz8 : (tv ts k).size ≤ 8 := HZ.out _ (by simp [tv, hlt])
      have HN := hid (joinB_take ts k hlt)
      have hsz := hb.size
      generalize joinB (ts.take k) = l at *
      generalize tv ts k = x at *
      obtain ⟨a5, c5, rfl⟩ := row_formM hown
      have HOWN := hid hown
      have HB := hid hb
      clear hc1 hb
      go_wp2_with (at_builtin; refine Lib.wpList_append_own_string _ rfl _ _ 53 9 rfl w.heap.size 5 i0 Try.underlying53 Try.underlying9 hi hz0 hz1 hz2 _ l.length (Lib.byteCells l) rfl hown x rfl (by unfold maxLen; omega) (by omega) hsz ?_; intro v' w4 hown4 hgrow4 _)
      have HB4 := hid (HB.out.grown hgrow4 hsz (fun g e => (HOWN.out.lt g e).1))
      refine ⟨⟨k + 1, by omega, by go_num, ?_, HB4.out⟩, by simp [intOf]; omega⟩
      rw [HN.out]
      have e1 : (l ++ x.data.toList).length = l.length + x.size := by rw [List.length_append, Array.length_toList]; rfl
      have e2 : Lib.byteCells (l ++ x.data.toList) = Lib.byteCells l ++ Lib.strCells x := by simp [Lib.byteCells, Lib.strCells]
      rw [e1, e2]; exact hown4
    · obtain rfl : k = ts.length := by omega
      rw [List.take_length] at hown
      have hjl : (joinB ts).length ≤ 4000 := Nat.le_trans (joinB_len 8 _ HZ.out) (by omega)
      have hcv := conv_cellsM hown
      have HS := hid fun W => specSum_any ⟨(joinB ts).toArray⟩ n W (by simp [ByteArray.size, maxLen]; omega)
      have HB := hid hb
      have em : mixB n ts = ⟨(sumOf (⟨(joinB ts).toArray⟩ : ByteArray).data.toList n).toArray⟩ := rfl
      clear hown hb
      generalize (⟨(joinB ts).toArray⟩ : ByteArray) = j at *
      have HM := hid em
      clear em
      go_wp2_with (go_at_call 36; refine (HS.out _).mono ?_; rintro e w5 ⟨rfl, hb5⟩)
      go_ret
      exact ⟨by rw [HM.out]; rfl, HB.out.trans (hb5.mono HB.out.size)⟩
end Go.Proofs.Ytnpfnafalkejnaa
