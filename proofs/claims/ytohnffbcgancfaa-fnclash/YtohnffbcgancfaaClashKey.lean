/- The keys of impl.Clash: arrays of bytes. -/
import Derived.Test.YtohnffbcgancfaaSum
import Derived.Maps.OwnOps
import Derived.Maps.OwnSet
import Derived.DeepKeys4
namespace Go.Proofs.Ytohnffbcgancfaa
open Go.RowKit
theorem laidOut : laidOutB Try.prog = true := by kernel_rfl
theorem row46 : (57 : TypeId) < Try.prog.types.size := of_decide_eq_true (by kernel_rfl)
theorem wide46 : (match Try.prog.underlying 57 with | some (.array _ _) | some (.struct _) => true | _ => false) = true := by rw [Try.underlying57]
theorem law46 : WideMaps.KeyLaw Try.prog 57 := deep_law_laid laidOut (m := 2) (by omega) row46 (by kernel_rfl) wide46
theorem keyed46 : Maps.Keyed Try.prog 57 := Maps.Keyed.of_law law46
theorem cells46 : Try.prog.cellsOf 57 = 8 := by kernel_rfl
theorem cells5 : Try.prog.cellsOf 5 = 1 := by kernel_rfl
theorem keyType46 : Try.prog.keyType 57 = true := by kernel_rfl
theorem key_lit {c0 c1 c2 c3 c4 c5 c6 c7 : Int} (h0 : (Lit.int .u8 c0).wf = true) (h1 : (Lit.int .u8 c1).wf = true) (h2 : (Lit.int .u8 c2).wf = true) (h3 : (Lit.int .u8 c3).wf = true) (h4 : (Lit.int .u8 c4).wf = true) (h5 : (Lit.int .u8 c5).wf = true) (h6 : (Lit.int .u8 c6).wf = true) (h7 : (Lit.int .u8 c7).wf = true) :
    keyOf Try.prog 57 (.agg #[.int .u8 c0, .int .u8 c1, .int .u8 c2, .int .u8 c3, .int .u8 c4, .int .u8 c5, .int .u8 c6, .int .u8 c7]) = some (.string (keyBytes [.int .u8 c0, .int .u8 c1, .int .u8 c2, .int .u8 c3, .int .u8 c4, .int .u8 c5, .int .u8 c6, .int .u8 c7])) := by
  unfold keyOf
  rw [Try.underlying57]
  have hd : ∃ d, Try.prog.types.size + 1 = d + 2 := ⟨Try.prog.types.size - 1, by have h : 57 < Try.prog.types.size := row46; omega⟩
  obtain ⟨d, hd⟩ := hd
  simp only [keyType46, Value.formed, Try.underlying57, cells46, hd]
  simp [Program.keyLits, Try.underlying57, Try.underlying5, cells46, cells5, Value.cells, List.range, List.range.loop, h0, h1, h2, h3, h4, h5, h6, h7]
theorem make63 (n : Nat) (_hn : n ≤ 2000) (w : World) : (Instr.makeMap 74 (some (.int .i64 (n : Int)))).run Try.prog w = .ok (.map (some w.heap.size)) (w.alloc (.map #[] 0)) := by
  simp [Instr.makeMap, go_sem]
/-- The key of a text. -/
def keyV (s : ByteArray) (m : Nat) : Value := .agg (keyC (fnvList s.data.toList) m m)
theorem keyC_wf (v : Int) (m k t : Nat) : (Lit.int .u8 (if t < m ∧ m ≤ t + k then v / 256 ^ (m - 1 - t) % 256 else 0)).wf = true := by
  have h : 0 ≤ (if t < m ∧ m ≤ t + k then v / 256 ^ (m - 1 - t) % 256 else 0) ∧ (if t < m ∧ m ≤ t + k then v / 256 ^ (m - 1 - t) % 256 else 0) ≤ 255 := by
    split
    · constructor <;> omega
    · omega
  generalize (if t < m ∧ m ≤ t + k then v / 256 ^ (m - 1 - t) % 256 else 0) = x at h
  simp [Lit.wf, IntKind.min, IntKind.max, IntKind.signed, IntKind.bits]; omega
def lk (s : ByteArray) (m : Nat) : Lit := .string (keyBytes ((List.range 8).map fun t => Lit.int .u8 (if t < m ∧ m ≤ t + m then fnvList s.data.toList / 256 ^ (m - 1 - t) % 256 else 0)))
theorem lk_key (s : ByteArray) (m : Nat) : keyOf Try.prog 57 (keyV s m) = some (lk s m) := by
  unfold keyV
  have e : keyC (fnvList s.data.toList) m m = #[.int .u8 _, .int .u8 _, .int .u8 _, .int .u8 _, .int .u8 _, .int .u8 _, .int .u8 _, .int .u8 _] := rfl
  rw [e]
  exact key_lit (keyC_wf _ m m 0) (keyC_wf _ m m 1) (keyC_wf _ m m 2) (keyC_wf _ m m 3) (keyC_wf _ m m 4) (keyC_wf _ m m 5) (keyC_wf _ m m 6) (keyC_wf _ m m 7)
theorem lk_lit (s : ByteArray) (m : Nat) : WideAt.IsKeyLit (lk s m) := keyed46.key (lk_key s m)
theorem by8_inj {a b : Int} (h : by8 a = by8 b) : a % 256 = b % 256 := by
  unfold by8 at h
  have h1 := congrArg UInt8.toNat h
  rw [UInt8.toNat_ofNat', UInt8.toNat_ofNat'] at h1
  omega
theorem lk_iff (s t : ByteArray) (m : Nat) (hm : m ≤ 8) : lk s m = lk t m ↔ lowB (fnvList s.data.toList) m = lowB (fnvList t.data.toList) m := by
  constructor
  · intro h
    have hv : keyV s m = keyV t m := keyed46.inj (lk_key s m) (by rw [h]; exact lk_key t m)
    have hc : keyC (fnvList s.data.toList) m m = keyC (fnvList t.data.toList) m m := by
      unfold keyV at hv; injection hv
    apply List.ext_getElem?
    intro i
    by_cases hi : i < m
    · rw [lowB_get _ m i hi, lowB_get _ m i hi]
      have h1 := keyC_get (fnvList s.data.toList) m m i (by omega)
      have h2 := keyC_get (fnvList t.data.toList) m m i (by omega)
      rw [hc, h2] at h1
      rw [if_pos (by omega), if_pos (by omega)] at h1
      have h3 : fnvList s.data.toList / 256 ^ (m - 1 - i) % 256 = fnvList t.data.toList / 256 ^ (m - 1 - i) % 256 := by
        have := Option.some.inj h1
        injection this with _ h4
        exact h4.symm
      unfold by8; rw [h3]
    · rw [List.getElem?_eq_none (by rw [lowB_length]; omega), List.getElem?_eq_none (by rw [lowB_length]; omega)]
  · intro h
    have hc : keyC (fnvList s.data.toList) m m = keyC (fnvList t.data.toList) m m := by
      apply Array.ext
      · rw [keyC_size, keyC_size]
      · intro i h1 h2
        rw [keyC_size] at h1
        have e1 := keyC_get (fnvList s.data.toList) m m i h1
        have e2 := keyC_get (fnvList t.data.toList) m m i h1
        rw [Array.getElem?_eq_getElem (by rw [keyC_size]; omega)] at e1 e2
        rw [Option.some.inj e1, Option.some.inj e2]
        by_cases hi : i < m
        · have h3 := lowB_get (fnvList s.data.toList) m i hi
          rw [h, lowB_get _ m i hi] at h3
          rw [by8_inj (Option.some.inj h3).symm]
        · rw [if_neg (by omega), if_neg (by omega)]
    have h2 := lk_key s m
    unfold keyV at h2
    rw [hc] at h2
    have h3 := lk_key t m
    unfold keyV at h3
    exact Option.some.inj (h2.symm.trans h3)
end Go.Proofs.Ytohnffbcgancfaa
