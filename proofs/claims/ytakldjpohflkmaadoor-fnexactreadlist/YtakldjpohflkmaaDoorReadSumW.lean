/- impl.readSum, walked. -/
import Derived.Test.YtakldjpohflkmaaDoorReadSum
namespace Go.Proofs.YtakldjpohflkmaaDoor
open Go.RowKit Go.Shelf
theorem or_bits : ∀ a : Fin 16, ∀ v : Fin 16, bits BinOp.or IntKind.u8 ((a.val : Int) * 16) (v.val : Int) = ((16 * a.val + v.val : Nat) : Int) := by decide
set_option maxRecDepth 100000 in
set_option maxHeartbeats 1000000 in
theorem readSum_any (line : ByteArray) (m : Nat) (hm : 1 ≤ m ∧ m ≤ 8) (hs : line.size ≤ 281474976710656) (w : World) (hw : Errs w) :
    Calls Tryd.prog 50 #[.string line, .int .i64 (m : Int)] w fun e w' => SumR line m e ∧ Below w.heap.size w w' := by
  obtain ⟨tn, pn, hns⟩ := hw.sum
  have hnl : 4 < w.heap.size := World.block_lt_of_cell? w ⟨4, 0, none⟩ hns
  clear hw
  obtain ⟨i0, hi, hz0, hz1, hz2⟩ := info_parts Tryd.infoByte
  by_cases h2 : line.size = 2 * m
  · have h2' : (line.size : Int) = 2 * (m : Int) := by omega
    obtain ⟨M, hM⟩ : ∃ M, M = madeCells (Value.int .u8 0).cells (((m : Nat) : Int).toNat * i0.size) := ⟨_, rfl⟩
    have hMs : M.size = m := by rw [hM, size_madeCells, hz1]; simp
    have hMv : ∀ j, j < m → M[j]? = some (.int .u8 0) := fun j hj => by
      rw [hM, hz1]; simp [madeCells, Value.cells, hj, Nat.mod_one]
    have hmk : ∀ W : World, (Instr.makeSlice 37 (.int .i64 (m : Int)) (.int .i64 (m : Int))).run Tryd.prog W = .ok (.slice (some ⟨W.heap.size, 0, none⟩) m m) (W.alloc (.cells M 5)) := fun W => by
      have h := run_make (P := Tryd.prog) W 37 5 i0 (.int .u8 0) Tryd.underlying37 hi hz0 .i64 .i64 (m : Int) (m : Int) (by omega) (by omega) (by rw [hz2]; omega) (by omega)
      rw [← hM] at h
      simpa using h
    have hMl : M.toList = rowS line.data.toList m 0 := by
      rw [rowS_zero]
      apply List.ext_getElem?
      intro k
      by_cases hk : k < m
      · have := hMv k hk
        rw [Array.getElem?_toList, this]
        simp [hk]
      · rw [List.getElem?_eq_none (by rw [Array.length_toList]; omega), List.getElem?_eq_none (by simp; omega)]
    have ho : (w.alloc (.cells M 5)).ownsRow w.heap.size 5 1 (.slice (some ⟨w.heap.size, 0, none⟩) m m) m (rowS line.data.toList m 0) := by
      have := World.ownsRow_lit (base := w.heap.size) (e := 5) (size := 1) w M m (Nat.le_refl _) (by unfold maxLen; omega) (by omega)
      rw [hMl] at this
      simpa using this
    have HO := hid ho
    have hm1 : (2 : Int) * (m : Int) ≤ 16 := by omega
    have hm0 : (0 : Int) ≤ (m : Int) := by omega
    clear ho hM hMv hMl hMs
    go_enter Tryd.func50, Tryd.ntmps50
    go_wp2
    go_loopw [19] (fun i' wr => ∃ i : Nat, i ≤ 2 * m ∧ i' = .int .i64 i ∧ (∀ b ∈ line.data.toList.take i, 0 ≤ dv b) ∧ wr.ownsRow w.heap.size 5 1 (.slice (some ⟨w.heap.size, 0, none⟩) m m) m (rowS line.data.toList m i) ∧ Below w.heap.size w wr) (fun i' _ => 2 * m - (intOf i').toNat)
    case atStart => exact ⟨0, Nat.zero_le _, rfl, by simp, HO.out, (Below.refl _ _).alloc (Nat.le_refl _) _⟩
    case round =>
      obtain ⟨i, hil, rfl, hall, hr, hb⟩ := hrel
      by_cases hlt : i < 2 * m
      · have hsz : i < line.size := by omega
        have hi0 : (0 : Int) ≤ (i : Int) := by omega
        have hi1 : (i : Int) < (line.size : Int) := by omega
        have hi2 : (i : Int) < 2 * (m : Int) := by omega
        have hlen : i < line.data.toList.length := by rw [Array.length_toList]; exact hsz
        have hgd : line.data.toList.getD i 0 = line[i] := getD_at line i hsz
        have hdv := dv_of (line[i]'hsz)
        have HIX := hid fun W => indexByte_any ⟨#[48, 49, 50, 51, 52, 53, 54, 55, 56, 57, 97, 98, 99, 100, 101, 102]⟩ ((line[i]'hsz).toNat : Int) W
        have e8 : ((line[i]'hsz).toNat : Int).toNat.toUInt8 = line[i]'hsz := UInt8.toNat_inj.1 (by rw [Int.toNat_natCast]; show (UInt8.ofNat _).toNat = _; rw [UInt8.toNat_ofNat']; have := (line[i]'hsz).toNat_lt; omega)
        rw [e8] at HIX
        change Hid (∀ W, Calls Tryd.prog 61 #[.string ⟨#[48, 49, 50, 51, 52, 53, 54, 55, 56, 57, 97, 98, 99, 100, 101, 102]⟩, .int .u8 ((line[i]'hsz).toNat : Int)] W fun e w' => e = .returned (.int .i64 (dv (line[i]'hsz))) ∧ w' = W) at HIX
        have hcs := hb.cell (p := ⟨4, 0, none⟩) hnl
        rw [hns] at hcs
        have HB := hid hb
        rcases hdv with hd | ⟨hd0, hd16, _⟩
        · have HN : Hid (SumR line m (.returned (.tuple #[.string ⟨#[]⟩, .iface tn pn]))) := .inr ⟨noSum_digit i hsz (by omega), _, _, rfl⟩
          rw [hd] at HIX
          clear hall hr hb hgd HO e8
          go_wp2_with (go_at_call 61; refine (HIX.out _).mono ?_; rintro e w' ⟨rfl, rfl⟩)
          go_region
          all_goals
            go_wp2
            go_ret2
            exact ⟨HN.out, HB.out.drew⟩
        · obtain ⟨v, hv⟩ := Int.eq_ofNat_of_zero_le hd0
          have hv16 : v < 16 := by omega
          have hnib : nib line.data.toList i = v := by unfold nib; rw [hgd, hv]; simp
          have HALL : Hid (∀ b ∈ line.data.toList.take (i + 1), 0 ≤ dv b) := fun b hb => by
            rw [List.take_succ_eq_append_getElem hlen] at hb
            rcases List.mem_append.1 hb with hb | hb
            · exact hall b hb
            · simp only [List.mem_cons, List.not_mem_nil, or_false] at hb
              rw [hb]
              show 0 ≤ dv (line[i]'hsz)
              omega
          have hold := bst_old line.data.toList i
          have hnew := bst_new line.data.toList i
          have hset := rowS_set line.data.toList m i
          rw [hnib] at hnew
          rw [hnew] at hset
          have hq : i / 2 < m := by omega
          have hcell := (hr.cellAt (i / 2) (by omega)).trans (rowS_get line.data.toList m i (i / 2) hq)
          have hfz := hr.frozenAt (i / 2)
          have HST := hid fun x => (hr.stored (i / 2) x).1
          have HSET := hid hset
          rw [hv] at HIX
          generalize bst line.data.toList i (i / 2) = a at *
          obtain ⟨q, hqe⟩ : ∃ q : Nat, q = i / 2 := ⟨_, rfl⟩
          rw [← hqe] at hq hcell hfz HST HSET
          have hq1 : Int.tdiv (i : Int) 2 = (q : Int) := by rw [Int.tdiv_eq_ediv_of_nonneg (by omega)]; omega
          have hq2 : (i : Int) / 2 = (q : Int) := by omega
          have hq3 : (q : Int) < (m : Int) := by omega
          clear hall hr hb hgd HO e8 hnew hset hqe hnib
          go_wp2_with (go_at_call 61; refine (HIX.out _).mono ?_; rintro e w' ⟨rfl, rfl⟩)
          have hor : bits BinOp.or IntKind.u8 ((a : Int) * 16) (v : Int) = ((16 * a + v : Nat) : Int) := or_bits ⟨a, hold⟩ ⟨v, hv16⟩
          rw [hor]
          refine ⟨⟨i + 1, by omega, by go_num, HALL.out, ?_, HB.out.setCell (p := ⟨w.heap.size, q, none⟩) (Nat.le_refl _) _⟩, by simp [intOf]; omega⟩
          have hst := HST.out (.int .u8 ((16 * a + v : Nat) : Int))
          rw [HSET.out] at hst
          exact hst
      · obtain rfl : i = 2 * m := by omega
        rw [rowS_end] at hr
        have hcv := conv_bytes hr
        have hlt' : ¬ (((2 * m : Nat) : Int) < 2 * (m : Int)) := by omega
        have hlen : line.data.toList.length = 2 * m := by rw [Array.length_toList]; exact h2
        have HE : Hid (SumR line m (.returned (.tuple #[.string ⟨(dig8 line.data.toList m).toArray⟩, .nilIface]))) := by
          refine .inl ⟨_, ?_, ?_, rfl⟩
          · show ((dig8 line.data.toList m).toArray.size : Int) = m
            rw [List.size_toArray]; simp [dig8]
          · refine hexL_dig8 m line.data.toList hlen (fun b hb => hall b ?_)
            rwa [List.take_of_length_le (by omega)]
        have HB := hid hb
        clear hall hr hb HO hlt
        generalize dig8 line.data.toList m = dd at *
        go_wp2
        go_ret2
        exact ⟨HE.out, HB.out⟩
  · have HN : Hid (SumR line m (.returned (.tuple #[.string ⟨#[]⟩, .iface tn pn]))) := .inr ⟨noSum_len h2, _, _, rfl⟩
    have h2' : ¬ ((line.size : Int) = 2 * (m : Int)) := by omega
    have hm1 : (2 : Int) * (m : Int) ≤ 16 := by omega
    go_enter Tryd.func50, Tryd.ntmps50
    go_wp2_with fail
    go_region
    all_goals
      go_wp2
      go_ret2
      exact ⟨HN.out, (Below.refl _ _).drew⟩
end Go.Proofs.YtakldjpohflkmaaDoor
