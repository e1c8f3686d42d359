import Derived.Test.YtkekajnbblifoaaGreatDoorNamesLaw
import Derived.Test.YtkekajnbblifoaaGreatDoorListOk
import Derived.Test.YtkekajnbblifoaaGreatDoorCut
import Derived.Test.YtkekajnbblifoaaGreatDoorIter
/- spec.l3Digit, spec.l3Number. -/
namespace Go.Proofs.YtkekajnbblifoaaGreatDoor
open Go.RowKit
def digI (b : Nat) : Int := if 48 ≤ b ∧ b ≤ 57 then (b : Int) - 48 else (b : Int) - 87
set_option maxRecDepth 100000 in
set_option maxHeartbeats 400000 in
theorem l3Digit_any (b : Nat) (hb : b < 256) (w : World) : Calls Tryz.prog 67 #[.int .u8 (b : Int)] w fun e w' => e = .returned (.int .i64 (digI b)) ∧ w' = w := by
  by_cases h1 : 48 ≤ b
  · have h1' : (48 : Int) ≤ (b : Int) := by omega
    by_cases h2 : b ≤ 57
    · have h2' : (b : Int) ≤ 57 := by omega
      have e : digI b = (b : Int) - 48 := by simp [digI, h1, h2]
      rw [e]; clear e
      go_enter Tryz.func67, Tryz.ntmps67
      go_wp2
      go_ret
      exact ⟨by go_num, rfl⟩
    · have h2' : ¬ ((b : Int) ≤ 57) := by omega
      have e : digI b = (b : Int) - 87 := by unfold digI; rw [if_neg (by omega)]
      rw [e]; clear e
      go_enter Tryz.func67, Tryz.ntmps67
      go_wp2
      go_ret
      exact ⟨by go_num, rfl⟩
  · have h1' : ¬ ((48 : Int) ≤ (b : Int)) := by omega
    have e : digI b = (b : Int) - 87 := by unfold digI; rw [if_neg (by omega)]
    rw [e]; clear e
    go_enter Tryz.func67, Tryz.ntmps67
    go_wp2
    go_ret
    exact ⟨by go_num, rfl⟩
theorem dec_digits : ∀ f n : Nat, n ≤ f → ∀ b ∈ Lib.decDigits n, 48 ≤ b.toNat ∧ b.toNat ≤ 57
  | f, n, h => by
    by_cases h10 : n < 10
    · rw [Lib.decDigits, dif_pos h10]
      intro b hb
      simp only [List.mem_cons, List.not_mem_nil, or_false] at hb
      rw [hb, dig_nat n h10]; omega
    · rw [Lib.decDigits, dif_neg h10]
      cases f with
      | zero => omega
      | succ f =>
      intro b hb
      rcases List.mem_append.1 hb with hb | hb
      · exact dec_digits f (n / 10) (by omega) b hb
      · simp only [List.mem_cons, List.not_mem_nil, or_false] at hb
        rw [hb, dig_nat (n % 10) (by omega)]; omega
theorem dec_len4 (n : Nat) (h : n ≤ 9999) : 1 ≤ (Lib.decDigits n).length ∧ (Lib.decDigits n).length ≤ 4 := by
  by_cases h1 : n < 10
  · rw [Lib.decDigits, dif_pos h1]; simp
  · rw [Lib.decDigits, dif_neg h1]
    by_cases h2 : n / 10 < 10
    · rw [Lib.decDigits, dif_pos h2]; simp
    · rw [Lib.decDigits, dif_neg h2]
      by_cases h3 : n / 10 / 10 < 10
      · rw [Lib.decDigits, dif_pos h3]; simp
      · rw [Lib.decDigits, dif_neg h3]
        rw [Lib.decDigits, dif_pos (by omega)]; simp
theorem valD_take (s : ByteArray) (k : Nat) (h : k < s.size) : valD (s.data.toList.take (k + 1)) = valD (s.data.toList.take k) * 10 + (s[k].toNat - 48) := by
  have hk : k < s.data.toList.length := by rw [Array.length_toList]; exact h
  rw [List.take_succ_eq_append_getElem hk]
  unfold valD
  rw [List.foldl_append]
  rfl
/-- What l3Number answers. -/
def NumR (s : ByteArray) (r : Int) : Prop := (∃ n : Nat, n ≤ 9999 ∧ decB n = s ∧ r = n) ∨ (r = -1 ∧ ∀ n : Nat, n ≤ 9999 → decB n ≠ s)
theorem decB_data {n : Nat} {s : ByteArray} (h : decB n = s) : Lib.decDigits n = s.data.toList := by
  subst h; simp [decB]
theorem num_size {s : ByteArray} (h : s.size < 1 ∨ 4 < s.size) : NumR s (-1) := by
  refine .inr ⟨rfl, fun n hn e => ?_⟩
  have e' := decB_data e
  have hl := dec_len4 n hn
  rw [e', Array.length_toList] at hl
  have : s.data.size = s.size := rfl
  omega
theorem num_digit {s : ByteArray} (k : Nat) (hk : k < s.size) (h : s[k].toNat < 48 ∨ 57 < s[k].toNat) : NumR s (-1) := by
  refine .inr ⟨rfl, fun n hn e => ?_⟩
  have e' := decB_data e
  have hk' : k < s.data.toList.length := by rw [Array.length_toList]; exact hk
  have hd := dec_digits n n (Nat.le_refl _) s[k] (by rw [e']; exact List.getElem_mem hk')
  omega
theorem num_other {s : ByteArray} (h : decB (valD s.data.toList) ≠ s) : NumR s (-1) := by
  refine .inr ⟨rfl, fun n hn e => h ?_⟩
  have e' := decB_data e
  rw [← e', (valD_dec n n (Nat.le_refl _)).1]
  exact e
theorem pow_step {v d : Nat} (k : Nat) (hv : v < 10 ^ k) (hd : d ≤ 9) : v * 10 + d < 10 ^ (k + 1) := by
  rw [Nat.pow_succ]; omega
set_option maxRecDepth 100000 in
set_option maxHeartbeats 1000000 in
theorem l3Number_any (s : ByteArray) (w : World) (hs : s.size ≤ maxLen) :
    Calls Tryz.prog 58 #[.string s] w fun e w' => ∃ r : Int, e = .returned (.int .i64 r) ∧ NumR s r ∧ Below w.heap.size w w' := by
  unfold maxLen at hs
  by_cases h1 : s.size < 1
  · have h1' : (s.size : Int) < 1 := by omega
    go_enter Tryz.func58, Tryz.ntmps58
    go_wp2
    go_ret
    exact ⟨-1, rfl, num_size (.inl h1), Below.refl _ _⟩
  · have h1' : ¬ ((s.size : Int) < 1) := by omega
    by_cases h4 : 4 < s.size
    · have h4' : (4 : Int) < (s.size : Int) := by omega
      go_enter Tryz.func58, Tryz.ntmps58
      go_wp2
      go_ret
      exact ⟨-1, rfl, num_size (.inr h4), Below.refl _ _⟩
    · have h4' : ¬ ((4 : Int) < (s.size : Int)) := by omega
      go_enter Tryz.func58, Tryz.ntmps58
      go_wp2
      go_loopw [3, 4] (fun v i wr => ∃ k : Nat, k ≤ s.size ∧ i = .int .i64 (k : Int) ∧ v = .int .i64 ((valD (s.data.toList.take k) : Nat) : Int) ∧ valD (s.data.toList.take k) < 10 ^ k ∧ wr = w) (fun _ i _ => s.size - (intOf i).toNat)
      case atStart => exact ⟨0, Nat.zero_le _, rfl, rfl, by simp [valD], rfl⟩
      case round =>
        obtain ⟨k, hk, rfl, rfl, hv, rfl⟩ := hrel
        have hp : 10 ^ k ≤ 10 ^ 4 := Nat.pow_le_pow_right (by omega) (by omega)
        by_cases hlt : k < s.size
        · have hk0 : (0 : Int) ≤ (k : Int) := by omega
          have hk1 : (k : Int) < (s.size : Int) := by omega
          have HT := hid (valD_take s k hlt)
          have HNO := hid (num_digit k hlt)
          have hb256 := UInt8.toNat_lt s[k]
          have HP := hid (fun (hd : s[k].toNat - 48 ≤ 9) => pow_step (d := s[k].toNat - 48) k hv hd)
          have HV := hid hv
          obtain ⟨b, hb⟩ : ∃ b : Nat, b = s[k].toNat := ⟨_, rfl⟩
          have hb' : (s[k].toNat : Int) = (b : Int) := by rw [hb]
          rw [← hb] at HT HNO HP hb256
          obtain ⟨v, hvv⟩ : ∃ v : Nat, v = valD (s.data.toList.take k) := ⟨_, rfl⟩
          rw [← hvv] at HT HP HV hv
          have hv9 : v < 10000 := by omega
          rw [← hvv]
          clear hb hvv hv
          by_cases hlo : b < 48
          · have hlo' : (b : Int) < 48 := by omega
            go_wp2
            go_ret
            exact ⟨-1, rfl, HNO.out (.inl hlo), Below.refl _ _⟩
          · have hlo' : ¬ ((b : Int) < 48) := by omega
            by_cases hhi : 57 < b
            · have hhi' : (57 : Int) < (b : Int) := by omega
              go_wp2
              go_ret
              exact ⟨-1, rfl, HNO.out (.inr hhi), Below.refl _ _⟩
            · have hhi' : ¬ ((57 : Int) < (b : Int)) := by omega
              go_wp2
              exact ⟨⟨k + 1, by omega, by go_num, by rw [HT.out]; go_num, by rw [HT.out]; exact HP.out (by omega), by simp⟩, by simp [intOf]; omega⟩
        · obtain rfl : k = s.size := by omega
          have e : (s.data.toList.take s.size) = s.data.toList := take_all s s.size (by omega)
          rw [e] at hv ⊢
          have HN := hid (num_other (s := s))
          have HY : Hid (decB (valD s.data.toList) = s → NumR s (valD s.data.toList : Nat)) := fun h => .inl ⟨valD s.data.toList, by omega, h, rfl⟩
          generalize valD s.data.toList = v at *
          have hv9 : v < 10000 := by omega
          have HD := hid fun W => l3Dec_any v v W (Nat.le_refl _) (by omega)
          clear e hv hp
          go_wp2_with fail
          refine (HD.out _).mono ?_
          rintro e w1 ⟨rfl, hb1⟩
          by_cases he : (decB v).toList = s.toList
          · have he' : ((decB v).toList == s.toList) = true := by simpa using he
            have HE := hid (HY.out (by apply ByteArray.ext; apply Array.ext'; rwa [ByteArray.toList_eq, ByteArray.toList_eq] at he))
            generalize decB v = d at *
            go_wp2
            go_ret
            exact ⟨_, rfl, HE.out, hb1⟩
          · have he' : ((decB v).toList == s.toList) = false := by simpa using he
            have HE := hid (HN.out (fun e => he (by rw [e])))
            generalize decB v = d at *
            go_wp2
            go_ret
            exact ⟨_, rfl, HE.out, hb1⟩
end Go.Proofs.YtkekajnbblifoaaGreatDoor
/- spec.l3Bytes: digits read loosely. -/
namespace Go.Proofs.YtkekajnbblifoaaGreatDoor
open Go.RowKit
def byI (a b : Nat) : Int := (16 * digI a + digI b) % 256
def byL : List UInt8 → List UInt8
  | a :: b :: r => UInt8.ofNat (byI a.toNat b.toNat).toNat :: byL r
  | _ => []
theorem byL_take : ∀ (k : Nat) (l : List UInt8), 2 * k + 1 < l.length → byL (l.take (2 * (k + 1))) = byL (l.take (2 * k)) ++ [UInt8.ofNat (byI (l.getD (2 * k) 0).toNat (l.getD (2 * k + 1) 0).toNat).toNat]
  | 0, a :: b :: r, _ => by simp [byL]
  | 0, [], h => by simp at h
  | 0, [a], h => by simp at h
  | k + 1, [], h => by simp at h
  | k + 1, [a], h => by simp at h
  | k + 1, a :: b :: r, h => by
    have ih := byL_take k r (by simp at h; omega)
    have e1 : (a :: b :: r).take (2 * (k + 1 + 1)) = a :: b :: r.take (2 * (k + 1)) := by rw [show 2 * (k + 1 + 1) = 2 * (k + 1) + 1 + 1 by omega]; rfl
    have e2 : (a :: b :: r).take (2 * (k + 1)) = a :: b :: r.take (2 * k) := by rw [show 2 * (k + 1) = 2 * k + 1 + 1 by omega]; rfl
    rw [e1, e2]
    show _ :: byL (r.take (2 * (k + 1))) = (_ :: byL (r.take (2 * k))) ++ _
    rw [ih, show 2 * (k + 1) = 2 * k + 1 + 1 by omega]
    simp
theorem byL_end : ∀ (k : Nat) (l : List UInt8), l.length ≤ 2 * k + 1 → byL (l.take (2 * k)) = byL l
  | 0, [], _ => rfl
  | 0, [a], _ => rfl
  | 0, a :: b :: r, h => by simp at h
  | k + 1, [], _ => by simp
  | k + 1, [a], _ => by rw [show 2 * (k + 1) = 2 * k + 1 + 1 by omega]; rfl
  | k + 1, a :: b :: r, h => by
    have e2 : (a :: b :: r).take (2 * (k + 1)) = a :: b :: r.take (2 * k) := by rw [show 2 * (k + 1) = 2 * k + 1 + 1 by omega]; rfl
    rw [e2]
    show _ :: byL (r.take (2 * k)) = _ :: byL r
    rw [byL_end k r (by simp at h; omega)]
theorem byI_range (a b : Nat) : 0 ≤ byI a b ∧ byI a b < 256 := by unfold byI; omega
theorem digI_range (b : Nat) (h : b < 256) : -87 ≤ digI b ∧ digI b ≤ 168 := by unfold digI; split <;> omega
theorem byL_cells (l : List UInt8) (k : Nat) (h : 2 * k + 1 < l.length) : Lib.byteCells (byL (l.take (2 * (k + 1)))) = Lib.byteCells (byL (l.take (2 * k))) ++ [.int .u8 (byI (l.getD (2 * k) 0).toNat (l.getD (2 * k + 1) 0).toNat)] := by
  rw [byL_take k l h]
  have hr := byI_range (l.getD (2 * k) 0).toNat (l.getD (2 * k + 1) 0).toNat
  generalize byI (l.getD (2 * k) 0).toNat (l.getD (2 * k + 1) 0).toNat = z at *
  simp [Lib.byteCells]
  omega
theorem at_getD (s : ByteArray) (k : Nat) (h : k < s.size) : s.data.toList.getD k 0 = s[k] := by
  have hk : k < s.data.toList.length := by rw [Array.length_toList]; exact h
  rw [List.getD_eq_getElem?_getD, List.getElem?_eq_getElem hk]
  rfl
theorem run_at (s : ByteArray) (k : Nat) (h : k < s.size) (W : World) : (Instr.index 9 (.string s) (.int .i64 (k : Int))).run Tryz.prog W = .ok (.int .u8 ((s[k]'h).toNat : Int)) W := by
  have hk0 : (0 : Int) ≤ (k : Int) := by omega
  have hk1 : (k : Int) < (s.size : Int) := by omega
  have hu := Tryz.underlying9
  go_simp
theorem cell_byte_new (W : World) (x : Value) (j : Nat) (u : Value) (h : [x][j]? = some u) : (W.alloc (.cells #[x] 5)).drew.cell? ((⟨W.heap.size, 0, none⟩ : Addr).add j) = some u := by
  cases j with
  | zero => simp at h; subst h; exact World.cell?_alloc_new W #[x] 5 0
  | succ j => simp at h
set_option maxRecDepth 100000 in
set_option maxHeartbeats 1000000 in
theorem l3Bytes_any (s : ByteArray) (w : World) (hs : s.size ≤ 1048576) :
    Calls Tryz.prog 59 #[.string s] w fun e w' => e = .returned (.string ⟨(byL s.data.toList).toArray⟩) ∧ Below w.heap.size w w' := by
  obtain ⟨i0, hi, hz0, hz1, hz2⟩ := info_parts Tryz.infoByte
  go_enter Tryz.func59, Tryz.ntmps59
  go_wp2
  go_loopw [3, 4] (fun v i wr => ∃ (k : Nat) (ao : Option Addr) (cp : Nat), 2 * k ≤ s.size ∧ i = .int .i64 ((2 * k : Nat) : Int) ∧ v = .slice ao k cp ∧ wr.ownsRow w.heap.size 5 1 v k (Lib.byteCells (byL (s.data.toList.take (2 * k)))) ∧ Below w.heap.size w wr) (fun _ i _ => s.size - (intOf i).toNat)
  case atStart => exact ⟨0, _, _, Nat.zero_le _, rfl, rfl, World.ownsRow_made w #[] 0 (Nat.le_refl _) (by simp [maxLen]) rfl, (Below.refl _ _).alloc (Nat.le_refl _) _⟩
  case round =>
    obtain ⟨k, ao, cp, hk, rfl, rfl, hrow, hbl⟩ := hrel
    by_cases hlt : 2 * k + 1 < s.size
    · have hk0 : (0 : Int) ≤ 2 * (k : Int) := by omega
      have hk1 : 2 * (k : Int) + 1 < (s.size : Int) := by omega
      have hk2 : 2 * (k : Int) < (s.size : Int) := by omega
      have hk3 : (0 : Int) ≤ 2 * (k : Int) + 1 := by omega
      have hlen : 2 * k + 1 < s.data.toList.length := by rw [Array.length_toList]; exact hlt
      have hl2 : 2 * k < s.size := by omega
      have hT := byL_cells s.data.toList k hlen
      rw [at_getD s (2 * k) hl2, at_getD s (2 * k + 1) hlt] at hT
      obtain ⟨b, hb⟩ : ∃ b : Nat, b = (s[2 * k]'hl2).toNat := ⟨_, rfl⟩
      obtain ⟨c, hc⟩ : ∃ c : Nat, c = (s[2 * k + 1]'hlt).toNat := ⟨_, rfl⟩
      have hb256 : b < 256 := by rw [hb]; exact UInt8.toNat_lt _
      have hc256 : c < 256 := by rw [hc]; exact UInt8.toNat_lt _
      rw [← hb, ← hc] at hT
      have HT := hid hT
      have hib : ∀ W : World, (Instr.index 9 (.string s) (.int .i64 ((2 * k : Nat) : Int))).run Tryz.prog W = .ok (.int .u8 (b : Int)) W := fun W => by rw [hb]; exact run_at s (2 * k) hl2 W
      have hic : ∀ W : World, (Instr.index 9 (.string s) (.int .i64 ((2 * k + 1 : Nat) : Int))).run Tryz.prog W = .ok (.int .u8 (c : Int)) W := fun W => by rw [hc]; exact run_at s (2 * k + 1) hlt W
      have HIB := hid hib
      have HIC := hid hic
      have HROW := hid hrow
      have HBL := hid hbl
      have hsz := hbl.size
      have HDb := hid fun W => l3Digit_any b hb256 W
      have HDc := hid fun W => l3Digit_any c hc256 W
      have hrb := digI_range b hb256
      have hrc := digI_range c hc256
      have HBY : Hid ((16 * digI b + digI c) % 256 = byI b c) := rfl
      generalize digI b = x at *
      generalize digI c = y at *
      clear hib hic hT hb hc hrow hbl
      go_wp2_with fail
      refine wp_region_held (S := fun _ => True) (by kernel_rfl) ?_
      change wpAnyH _ _ _ _ _ _ _ _ (World.drew _)
      refine wpAnyH_take (i := 0) (v := .slice ao k cp) rfl (by kernel_rfl) (by kernel_rfl) (by kernel_rfl) (fun _ _ _ h => h) (.inl ⟨rfl, fun w' _ => by go_simp⟩) trivial ?_
      refine wpAnyH_take (i := 1) (v := .string s) rfl (by kernel_rfl) (by kernel_rfl) (by kernel_rfl) (fun _ _ _ h => h) (.inl ⟨rfl, fun w' _ => by go_simp⟩) trivial ?_
      refine wpAnyH_take (i := 2) (v := .int .i64 ((2 * k : Nat) : Int)) rfl (by kernel_rfl) (by kernel_rfl) (by kernel_rfl) (fun _ _ _ h => h) (.inl ⟨rfl, fun w' _ => by go_simp⟩) trivial ?_
      refine wpAnyH_take (i := 3) (v := .int .u8 (b : Int)) rfl (by kernel_rfl) (by kernel_rfl) (by kernel_rfl) (fun _ _ _ h => h) (.inl ⟨rfl, fun w' _ => exec_index (t := 9) (x := .tmp 14) (i := .tmp 15) (s := s) (k := .i64) (j := ((2 * k : Nat) : Int)) (by rfl) (by go_simp) (by go_simp) (HIB.out w')⟩) trivial ?_
      refine wpAnyH_take (i := 6) (v := .string s) rfl (by kernel_rfl) (by kernel_rfl) (by kernel_rfl) (fun _ _ _ h => h) (.inl ⟨rfl, fun w' _ => by go_simp⟩) trivial ?_
      refine wpAnyH_take (i := 7) (v := .int .i64 ((2 * k : Nat) : Int)) rfl (by kernel_rfl) (by kernel_rfl) (by kernel_rfl) (fun _ _ _ h => h) (.inl ⟨rfl, fun w' _ => by go_simp⟩) trivial ?_
      refine wpAnyH_take (i := 8) (v := .int .i64 ((2 * k + 1 : Nat) : Int)) rfl (by kernel_rfl) (by kernel_rfl) (by kernel_rfl) (fun _ _ _ h => h) (.inl ⟨rfl, fun w' _ => by go_simp; first | exact IntKind.wrap_u8 _ | (rw [IntKind.wrap_i64]; omega)⟩) trivial ?_
      refine wpAnyH_take (i := 9) (v := .int .u8 (c : Int)) rfl (by kernel_rfl) (by kernel_rfl) (by kernel_rfl) (fun _ _ _ h => h) (.inl ⟨rfl, fun w' _ => exec_index (t := 9) (x := .tmp 19) (i := .tmp 21) (s := s) (k := .i64) (j := ((2 * k + 1 : Nat) : Int)) (by rfl) (by go_simp) (by go_simp) (HIC.out w')⟩) trivial ?_
      have hed := enters_of Tryz.func67 (by kernel_rfl) rfl
      refine held_one 4 (by kernel_rfl) (op_calls (f := 67) (args := #[.int .u8 (b : Int)]) rfl rfl (by go_simp) (HDb.out _) ?_)
      rintro e w1 ⟨rfl, rfl⟩
      refine ⟨_, rfl, trivial, ?_⟩
      refine wpAnyH_take (i := 5) (v := .int .i64 (16 * x)) rfl (by kernel_rfl) (by kernel_rfl) (by kernel_rfl) (fun _ _ _ h => h) (.inl ⟨rfl, fun w' _ => by go_simp; first | exact IntKind.wrap_u8 _ | (rw [IntKind.wrap_i64]; omega)⟩) trivial ?_
      refine held_one 10 (by kernel_rfl) (op_calls (f := 67) (args := #[.int .u8 (c : Int)]) rfl rfl (by go_simp) (HDc.out _) ?_)
      rintro e w1 ⟨rfl, rfl⟩
      refine ⟨_, rfl, trivial, ?_⟩
      refine wpAnyH_take (i := 11) (v := .int .i64 (16 * x + y)) rfl (by kernel_rfl) (by kernel_rfl) (by kernel_rfl) (fun _ _ _ h => h) (.inl ⟨rfl, fun w' _ => by go_simp; first | exact IntKind.wrap_u8 _ | (rw [IntKind.wrap_i64]; omega)⟩) trivial ?_
      refine wpAnyH_take (i := 12) (v := .int .u8 ((16 * x + y) % 256)) rfl (by kernel_rfl) (by kernel_rfl) (by kernel_rfl) (fun _ _ _ h => h) (.inl ⟨rfl, fun w' _ => by go_simp; first | exact IntKind.wrap_u8 _ | (rw [IntKind.wrap_i64]; omega)⟩) trivial ?_
      have hbase : w.heap.size ≤ (wr.alloc (.cells #[.int .u8 ((16 * x + y) % 256)] 5)).drew.heap.size := by simp; omega
      rw [HBY.out] at hbase ⊢
      generalize byI b c = z at *
      refine held_one 13 (by kernel_rfl) (op_value (v := .slice (some ⟨wr.heap.size, 0, none⟩) 1 1) (w' := (wr.alloc (.cells #[.int .u8 z] 5)).drew) rfl rfl (by go_simp) ⟨trivial, ?_⟩)
      refine held_one 14 (by kernel_rfl) (op_wp rfl rfl (wp_append_lies _ (.tmp 13) (.tmp 26) 86 rfl w.heap.size 5 i0 (.int .u8 0) 1 1 Tryz.underlying86 hi hz0 hz1 hz2 rfl (by decide) (.slice ao k cp) k _ (by go_simp) (HROW.out.alloc _) ⟨wr.heap.size, 0, none⟩ 1 1 [.int .u8 z] (by go_simp) rfl (cell_byte_new wr _) (by simp [Value.oneCell']) (by decide) (by unfold maxLen; omega) (by omega) hbase (wr.heap.size + 1) (by simp) ?_))
      intro g' cap' w4 hown4 hgrow4 _ hlt4
      have HB4 := hid (append_below HBL.out HROW.out (o := .cells #[.int .u8 z] 5) ⟨hgrow4.os, hgrow4.tape, hgrow4.output, hgrow4.size, hgrow4.block⟩)
      have HOWN4 := hid hown4
      clear hown4 hgrow4
      refine ⟨trivial, held_one 15 (by kernel_rfl) (op_value (v := .slice (some ⟨g', 0, none⟩) (k + 1) cap') (w' := w4) rfl rfl (by go_simp) ⟨trivial, wpAnyH_done (by kernel_rfl) ?_ _⟩)⟩
      go_simp
      go_wp2
      go_roundw
      case rel => exact ⟨k + 1, some ⟨g', 0, none⟩, cap', by omega, by go_num, rfl, by rw [HT.out]; exact HOWN4.out, HB4.out⟩
      case measure => simp [intOf]; omega
    · have hk1 : ¬ (2 * (k : Int) + 1 < (s.size : Int)) := by omega
      have hcv := conv_bytes hrow
      rw [byL_end k s.data.toList (by rw [Array.length_toList]; show s.size ≤ _; omega)] at hcv
      have HBL := hid hbl
      clear hrow hbl
      go_wp2
      go_ret
      exact ⟨rfl, HBL.out⟩
end Go.Proofs.YtkekajnbblifoaaGreatDoor
/- spec.l3Cut: the lines of a text. -/
namespace Go.Proofs.YtkekajnbblifoaaGreatDoor
open Go.RowKit
/-- What has been cut when k bytes have come: where the open line begins, and the lines ahead of it. -/
def linesTo (s : ByteArray) : Nat → Nat × List ByteArray
  | 0 => (0, [])
  | k + 1 => if s.data.toList.getD k 0 = 10 then (k + 1, (linesTo s k).2 ++ [s.extract (linesTo s k).1 k]) else linesTo s k
/-- The lines of a text; the last is what lies behind the last newline. -/
def linesOf (s : ByteArray) : List ByteArray := (linesTo s s.size).2 ++ [s.extract (linesTo s s.size).1 s.size]
theorem linesTo_le (s : ByteArray) (k : Nat) : (linesTo s k).1 ≤ k ∧ (linesTo s k).2.length ≤ k := by
  induction k with
  | zero => simp [linesTo]
  | succ k ih => unfold linesTo; split <;> first | (simp; omega) | omega
theorem linesTo_cut (s : ByteArray) (k : Nat) (h : s.data.toList.getD k 0 = 10) : linesTo s (k + 1) = (k + 1, (linesTo s k).2 ++ [s.extract (linesTo s k).1 k]) := by
  conv => lhs; unfold linesTo
  rw [if_pos h]
theorem linesTo_on (s : ByteArray) (k : Nat) (h : ¬ s.data.toList.getD k 0 = 10) : linesTo s (k + 1) = linesTo s k := by
  conv => lhs; unfold linesTo
  rw [if_neg h]
theorem getD_at (s : ByteArray) (k : Nat) (h : k < s.size) : s.data.toList.getD k 0 = s[k] := by
  have hk : k < s.data.toList.length := by rw [Array.length_toList]; exact h
  rw [List.getD_eq_getElem?_getD, List.getElem?_eq_getElem hk]
  rfl
set_option maxRecDepth 100000 in
set_option maxHeartbeats 1000000 in
theorem l3Cut_any (s : ByteArray) (w : World) (hs : s.size ≤ 1048576) :
    Calls Tryz.prog 57 #[.string s, .int .u8 10] w fun e w' => ∃ v, e = .returned v ∧ w'.ownsRow w.heap.size 9 1 v (linesOf s).length ((linesOf s).map Value.string) ∧ Below w.heap.size w w' := by
  obtain ⟨i0, hi, hz0, hz1, hz2⟩ := info_parts Tryz.info9
  go_enter Tryz.func57, Tryz.ntmps57
  go_wp2
  go_loopw [5, 6, 7] (fun v f i wr => ∃ k : Nat, k ≤ s.size ∧ i = .int .i64 (k : Int) ∧ f = .int .i64 ((linesTo s k).1 : Nat) ∧ wr.ownsRow w.heap.size 9 1 v (linesTo s k).2.length ((linesTo s k).2.map Value.string) ∧ Below w.heap.size w wr) (fun _ _ i _ => s.size - (intOf i).toNat)
  case atStart => exact ⟨0, Nat.zero_le _, rfl, rfl, World.ownsRow_made w #[] 0 (Nat.le_refl _) (by simp [maxLen]) rfl, (Below.refl _ _).alloc (Nat.le_refl _) _⟩
  case round =>
    obtain ⟨k, hk, rfl, rfl, hown, hb⟩ := hrel
    have hcl := linesTo_le s k
    by_cases hlt : k < s.size
    · have hk0 : (0 : Int) ≤ (k : Int) := by omega
      have hk1 : (k : Int) < (s.size : Int) := by omega
      by_cases h10 : s[k] = 10
      · have HN := hid (linesTo_cut s k (by rw [getD_at s k hlt]; exact h10))
        have h10' : (((s[k].toNat : Nat) : Int) == 10) = true := by rw [h10]; rfl
        generalize linesTo s k = c at *
        obtain ⟨f, ps⟩ := c
        clear h10
        dsimp only at *
        go_wp2_with (at_builtin; refine wpList_append_own _ rfl _ _ 23 rfl w.heap.size 9 i0 (.string ⟨#[]⟩) 1 16 Tryz.underlying23 hi hz0 hz1 hz2 rfl (by decide) _ _ _ rfl (hown.alloc _) ⟨_, 0, none⟩ 1 1 [.string (s.extract f k)] rfl rfl (cell_one_new _ _ _) (by simp [Value.oneCell']) (by unfold maxLen; omega) (by omega) (by have := hb.size; simp; omega) ?_; intro v' w1 hown' hgrow _)
        have hb1 : Below w.heap.size w w1 := append_below hb hown hgrow
        refine ⟨⟨k + 1, by omega, by go_num, by rw [HN.out]; go_num, ?_, hb1⟩, by simp [intOf]; omega⟩
        rw [HN.out]; simpa using hown'
      · have HN := hid (linesTo_on s k (by rw [getD_at s k hlt]; exact h10))
        have h10' : (((s[k].toNat : Nat) : Int) == 10) = false := by
          have : s[k].toNat ≠ 10 := fun e => h10 (UInt8.toNat_inj.1 e)
          simp; omega
        generalize linesTo s k = c at *
        obtain ⟨f, ps⟩ := c
        clear h10
        go_wp2
        exact ⟨⟨k + 1, by omega, by go_num, by rw [HN.out], by rw [HN.out]; exact hown, hb⟩, by simp [intOf]; omega⟩
    · obtain rfl : k = s.size := by omega
      have HL : Hid (linesOf s = (linesTo s s.size).2 ++ [s.extract (linesTo s s.size).1 s.size]) := rfl
      generalize linesTo s s.size = c at *
      obtain ⟨f, ps⟩ := c
      dsimp only at *
      go_wp2_with (at_builtin; refine wpList_append_own _ rfl _ _ 23 rfl w.heap.size 9 i0 (.string ⟨#[]⟩) 1 16 Tryz.underlying23 hi hz0 hz1 hz2 rfl (by decide) _ _ _ rfl (hown.alloc _) ⟨_, 0, none⟩ 1 1 [.string (s.extract f s.size)] rfl rfl (cell_one_new _ _ _) (by simp [Value.oneCell']) (by unfold maxLen; omega) (by omega) (by have := hb.size; simp; omega) ?_; intro v' w1 hown' hgrow _)
      have hb1 : Below w.heap.size w w1 := append_below hb hown hgrow
      go_ret
      exact ⟨_, rfl, by rw [HL.out]; simpa using hown', hb1⟩
end Go.Proofs.YtkekajnbblifoaaGreatDoor
