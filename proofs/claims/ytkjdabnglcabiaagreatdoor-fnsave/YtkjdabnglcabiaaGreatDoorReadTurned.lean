import Derived.Test.YtkjdabnglcabiaaGreatDoorNamesLaw
import Derived.Test.YtkjdabnglcabiaaGreatDoorShort
import Derived.Test.YtkjdabnglcabiaaGreatDoorDigits
import Derived.Test.YtkjdabnglcabiaaGreatDoorRingA
import Derived.Test.YtkjdabnglcabiaaGreatDoorPiecesBase
/- spec.l3Digit, spec.l3Number. -/
namespace Go.Proofs.YtkjdabnglcabiaaGreatDoor
open Go.RowKit
def digI (b : Nat) : Int := if 48 ≤ b ∧ b ≤ 57 then (b : Int) - 48 else (b : Int) - 87
set_option maxRecDepth 100000 in
set_option maxHeartbeats 400000 in
theorem l3Digit_any (b : Nat) (hb : b < 256) (w : World) : Calls Tryz.prog 140 #[.int .u8 (b : Int)] w fun e w' => e = .returned (.int .i64 (digI b)) ∧ w' = w := by
 by_cases h1 : 48 ≤ b
 ·have h1' : (48 : Int) ≤ (b : Int) := by omega
  by_cases h2 : b ≤ 57
  ·have h2' : (b : Int) ≤ 57 := by omega
   have e : digI b = (b : Int) - 48 := by simp [digI, h1, h2]
   rw [e]; clear e
   go_enter Tryz.func140, Tryz.ntmps140
   go_wp2
   go_ret
   exact ⟨by go_num, rfl⟩
  ·have h2' : ¬ ((b : Int) ≤ 57) := by omega
   have e : digI b = (b : Int) - 87 := by unfold digI; rw [if_neg (by omega)]
   rw [e]; clear e
   go_enter Tryz.func140, Tryz.ntmps140
   go_wp2
   go_ret
   exact ⟨by go_num, rfl⟩
 ·have h1' : ¬ ((48 : Int) ≤ (b : Int)) := by omega
  have e : digI b = (b : Int) - 87 := by unfold digI; rw [if_neg (by omega)]
  rw [e]; clear e
  go_enter Tryz.func140, Tryz.ntmps140
  go_wp2
  go_ret
  exact ⟨by go_num, rfl⟩
theorem dec_digits : ∀ f n : Nat, n ≤ f → ∀ b ∈ Lib.decDigits n, 48 ≤ b.toNat ∧ b.toNat ≤ 57
 | f, n, h => by
  by_cases h10 : n < 10
  ·rw [Lib.decDigits, dif_pos h10]
   intro b hb
   simp only [List.mem_cons, List.not_mem_nil, or_false] at hb
   rw [hb, dig_nat n h10]; omega
  ·rw [Lib.decDigits, dif_neg h10]
   cases f with
   | zero => omega
   | succ f =>
   intro b hb
   rcases List.mem_append.1 hb with hb | hb
   ·exact dec_digits f (n / 10) (by omega) b hb
   ·simp only [List.mem_cons, List.not_mem_nil, or_false] at hb
    rw [hb, dig_nat (n % 10) (by omega)]; omega
theorem dec_len4 (n : Nat) (h : n ≤ 9999) : 1 ≤ (Lib.decDigits n).length ∧ (Lib.decDigits n).length ≤ 4 := by
 by_cases h1 : n < 10
 ·rw [Lib.decDigits, dif_pos h1]; simp
 ·rw [Lib.decDigits, dif_neg h1]
  by_cases h2 : n / 10 < 10
  ·rw [Lib.decDigits, dif_pos h2]; simp
  ·rw [Lib.decDigits, dif_neg h2]
   by_cases h3 : n / 10 / 10 < 10
   ·rw [Lib.decDigits, dif_pos h3]; simp
   ·rw [Lib.decDigits, dif_neg h3]
    rw [Lib.decDigits, dif_pos (by omega)]; simp
theorem valD_take (s : ByteArray) (k : Nat) (h : k < s.size) : valD (s.data.toList.take (k + 1)) = valD (s.data.toList.take k) * 10 + (s[k].toNat - 48) := by
 have hk : k < s.data.toList.length := by rw [Array.length_toList]; exact h
 rw [List.take_succ_eq_append_getElem hk]
 unfold valD
 rw [List.foldl_append]
 rfl
/-- What l3Number answers. -/
def NumR (s : ByteArray) (r : Int) : Prop := (∃ n : Nat, n ≤ 9999 ∧ decB n = s ∧ r = n) ∨ (r = -1 ∧ ∀ n : Nat, n ≤ 9999 → decB n ≠ s)
theorem decB_data {n : Nat} {s : ByteArray} (h : decB n = s) : Lib.decDigits n = s.data.toList := by
 subst h; simp [decB]
theorem num_size {s : ByteArray} (h : s.size < 1 ∨ 4 < s.size) : NumR s (-1) := by
 refine .inr ⟨rfl, fun n hn e => ?_⟩
 have e' := decB_data e
 have hl := dec_len4 n hn
 rw [e', Array.length_toList] at hl
 have : s.data.size = s.size := rfl
 omega
theorem num_digit {s : ByteArray} (k : Nat) (hk : k < s.size) (h : s[k].toNat < 48 ∨ 57 < s[k].toNat) : NumR s (-1) := by
 refine .inr ⟨rfl, fun n hn e => ?_⟩
 have e' := decB_data e
 have hk' : k < s.data.toList.length := by rw [Array.length_toList]; exact hk
 have hd := dec_digits n n (Nat.le_refl _) s[k] (by rw [e']; exact List.getElem_mem hk')
 omega
theorem num_other {s : ByteArray} (h : decB (valD s.data.toList) ≠ s) : NumR s (-1) := by
 refine .inr ⟨rfl, fun n hn e => h ?_⟩
 have e' := decB_data e
 rw [← e', (valD_dec n n (Nat.le_refl _)).1]
 exact e
theorem pow_step {v d : Nat} (k : Nat) (hv : v < 10 ^ k) (hd : d ≤ 9) : v * 10 + d < 10 ^ (k + 1) := by
 rw [Nat.pow_succ]; omega
set_option maxRecDepth 100000 in
set_option maxHeartbeats 1000000 in
theorem l3Number_any (s : ByteArray) (w : World) (hs : s.size ≤ maxLen) :
  Calls Tryz.prog 117 #[.string s] w fun e w' => ∃ r : Int, e = .returned (.int .i64 r) ∧ NumR s r ∧ Below w.heap.size w w' := by
 unfold maxLen at hs
 by_cases h1 : s.size < 1
 ·have h1' : (s.size : Int) < 1 := by omega
  go_enter Tryz.func117, Tryz.ntmps117
  go_wp2
  go_ret
  exact ⟨-1, rfl, num_size (.inl h1), Below.refl _ _⟩
 ·have h1' : ¬ ((s.size : Int) < 1) := by omega
  by_cases h4 : 4 < s.size
  ·have h4' : (4 : Int) < (s.size : Int) := by omega
   go_enter Tryz.func117, Tryz.ntmps117
   go_wp2
   go_ret
   exact ⟨-1, rfl, num_size (.inr h4), Below.refl _ _⟩
  ·have h4' : ¬ ((4 : Int) < (s.size : Int)) := by omega
   go_enter Tryz.func117, Tryz.ntmps117
   go_wp2
   go_loopw [3, 4] (fun v i wr => ∃ k : Nat, k ≤ s.size ∧ i = .int .i64 (k : Int) ∧ v = .int .i64 ((valD (s.data.toList.take k) : Nat) : Int) ∧ valD (s.data.toList.take k) < 10 ^ k ∧ wr = w) (fun _ i _ => s.size - (intOf i).toNat)
   case atStart => exact ⟨0, Nat.zero_le _, rfl, rfl, by simp [valD], rfl⟩
   case round =>
    obtain ⟨k, hk, rfl, rfl, hv, rfl⟩ := hrel
    have hp : 10 ^ k ≤ 10 ^ 4 := Nat.pow_le_pow_right (by omega) (by omega)
    by_cases hlt : k < s.size
    ·have hk0 : (0 : Int) ≤ (k : Int) := by omega
     have hk1 : (k : Int) < (s.size : Int) := by omega
     have HT := hid (valD_take s k hlt)
     have HNO := hid (num_digit k hlt)
     have hb256 := UInt8.toNat_lt s[k]
     have HP := hid (fun (hd : s[k].toNat - 48 ≤ 9) => pow_step (d := s[k].toNat - 48) k hv hd)
     have HV := hid hv
     obtain ⟨b, hb⟩ : ∃ b : Nat, b = s[k].toNat := ⟨_, rfl⟩
     have hb' : (s[k].toNat : Int) = (b : Int) := by rw [hb]
     rw [← hb] at HT HNO HP hb256
     obtain ⟨v, hvv⟩ : ∃ v : Nat, v = valD (s.data.toList.take k) := ⟨_, rfl⟩
     rw [← hvv] at HT HP HV hv
     have hv9 : v < 10000 := by omega
     rw [← hvv]
     clear hb hvv hv
     by_cases hlo : b < 48
     ·have hlo' : (b : Int) < 48 := by omega
      go_wp2
      go_ret
      exact ⟨-1, rfl, HNO.out (.inl hlo), Below.refl _ _⟩
     ·have hlo' : ¬ ((b : Int) < 48) := by omega
      by_cases hhi : 57 < b
      ·have hhi' : (57 : Int) < (b : Int) := by omega
       go_wp2
       go_ret
       exact ⟨-1, rfl, HNO.out (.inr hhi), Below.refl _ _⟩
      ·have hhi' : ¬ ((57 : Int) < (b : Int)) := by omega
       go_wp2
       exact ⟨⟨k + 1, by omega, by go_num, by rw [HT.out]; go_num, by rw [HT.out]; exact HP.out (by omega), by simp⟩, by simp [intOf]; omega⟩
    ·obtain rfl : k = s.size := by omega
     have e : (s.data.toList.take s.size) = s.data.toList := take_all s s.size (by omega)
     rw [e] at hv ⊢
     have HN := hid (num_other (s := s))
     have HY : Hid (decB (valD s.data.toList) = s → NumR s (valD s.data.toList : Nat)) := fun h => .inl ⟨valD s.data.toList, by omega, h, rfl⟩
     generalize valD s.data.toList = v at *
     have hv9 : v < 10000 := by omega
     have HD := hid fun W => l3Dec_any v v W (Nat.le_refl _) (by omega)
     clear e hv hp
     go_wp2_with fail
     refine (HD.out _).mono ?_
     rintro e w1 ⟨rfl, hb1⟩
     by_cases he : (decB v).toList = s.toList
     ·have he' : ((decB v).toList == s.toList) = true := by simpa using he
      have HE := hid (HY.out (by apply ByteArray.ext; apply Array.ext'; rwa [ByteArray.toList_eq, ByteArray.toList_eq] at he))
      generalize decB v = d at *
      go_wp2
      go_ret
      exact ⟨_, rfl, HE.out, hb1⟩
     ·have he' : ((decB v).toList == s.toList) = false := by simpa using he
      have HE := hid (HN.out (fun e => he (by rw [e])))
      generalize decB v = d at *
      go_wp2
      go_ret
      exact ⟨_, rfl, HE.out, hb1⟩
end Go.Proofs.YtkjdabnglcabiaaGreatDoor
/- spec.l3Bytes: digits read loosely. -/
namespace Go.Proofs.YtkjdabnglcabiaaGreatDoor
open Go.RowKit
def byI (a b : Nat) : Int := (16 * digI a + digI b) % 256
def byL : List UInt8 → List UInt8
 | a :: b :: r => UInt8.ofNat (byI a.toNat b.toNat).toNat :: byL r
 | _ => []
theorem byL_take : ∀ (k : Nat) (l : List UInt8), 2 * k + 1 < l.length → byL (l.take (2 * (k + 1))) = byL (l.take (2 * k)) ++ [UInt8.ofNat (byI (l.getD (2 * k) 0).toNat (l.getD (2 * k + 1) 0).toNat).toNat]
 | 0, a :: b :: r, _ => by simp [byL]
 | 0, [], h => by simp at h
 | 0, [a], h => by simp at h
 | k + 1, [], h => by simp at h
 | k + 1, [a], h => by simp at h
 | k + 1, a :: b :: r, h => by
  have ih := byL_take k r (by simp at h; omega)
  have e1 : (a :: b :: r).take (2 * (k + 1 + 1)) = a :: b :: r.take (2 * (k + 1)) := by rw [show 2 * (k + 1 + 1) = 2 * (k + 1) + 1 + 1 by omega]; rfl
  have e2 : (a :: b :: r).take (2 * (k + 1)) = a :: b :: r.take (2 * k) := by rw [show 2 * (k + 1) = 2 * k + 1 + 1 by omega]; rfl
  rw [e1, e2]
  show _ :: byL (r.take (2 * (k + 1))) = (_ :: byL (r.take (2 * k))) ++ _
  rw [ih, show 2 * (k + 1) = 2 * k + 1 + 1 by omega]
  simp
theorem byL_end : ∀ (k : Nat) (l : List UInt8), l.length ≤ 2 * k + 1 → byL (l.take (2 * k)) = byL l
 | 0, [], _ => rfl
 | 0, [a], _ => rfl
 | 0, a :: b :: r, h => by simp at h
 | k + 1, [], _ => by simp
 | k + 1, [a], _ => by rw [show 2 * (k + 1) = 2 * k + 1 + 1 by omega]; rfl
 | k + 1, a :: b :: r, h => by
  have e2 : (a :: b :: r).take (2 * (k + 1)) = a :: b :: r.take (2 * k) := by rw [show 2 * (k + 1) = 2 * k + 1 + 1 by omega]; rfl
  rw [e2]
  show _ :: byL (r.take (2 * k)) = _ :: byL r
  rw [byL_end k r (by simp at h; omega)]
theorem byI_range (a b : Nat) : 0 ≤ byI a b ∧ byI a b < 256 := by unfold byI; omega
theorem digI_range (b : Nat) (h : b < 256) : -87 ≤ digI b ∧ digI b ≤ 168 := by unfold digI; split <;> omega
theorem byL_cells (l : List UInt8) (k : Nat) (h : 2 * k + 1 < l.length) : Lib.byteCells (byL (l.take (2 * (k + 1)))) = Lib.byteCells (byL (l.take (2 * k))) ++ [.int .u8 (byI (l.getD (2 * k) 0).toNat (l.getD (2 * k + 1) 0).toNat)] := by
 rw [byL_take k l h]
 have hr := byI_range (l.getD (2 * k) 0).toNat (l.getD (2 * k + 1) 0).toNat
 generalize byI (l.getD (2 * k) 0).toNat (l.getD (2 * k + 1) 0).toNat = z at *
 simp [Lib.byteCells]
 omega
theorem at_getD (s : ByteArray) (k : Nat) (h : k < s.size) : s.data.toList.getD k 0 = s[k] := by
 have hk : k < s.data.toList.length := by rw [Array.length_toList]; exact h
 rw [List.getD_eq_getElem?_getD, List.getElem?_eq_getElem hk]
 rfl
theorem run_at (s : ByteArray) (k : Nat) (h : k < s.size) (W : World) : (Instr.index 9 (.string s) (.int .i64 (k : Int))).run Tryz.prog W = .ok (.int .u8 ((s[k]'h).toNat : Int)) W := by
 have hk0 : (0 : Int) ≤ (k : Int) := by omega
 have hk1 : (k : Int) < (s.size : Int) := by omega
 have hu := Tryz.underlying9
 go_simp
theorem cell_byte_new (W : World) (x : Value) (j : Nat) (u : Value) (h : [x][j]? = some u) : (W.alloc (.cells #[x] 5)).drew.cell? ((⟨W.heap.size, 0, none⟩ : Addr).add j) = some u := by
 cases j with
 | zero => simp at h; subst h; exact World.cell?_alloc_new W #[x] 5 0
 | succ j => simp at h
set_option maxRecDepth 100000 in
set_option maxHeartbeats 1000000 in
theorem l3Bytes_any (s : ByteArray) (w : World) (hs : s.size ≤ 1048576) :
  Calls Tryz.prog 118 #[.string s] w fun e w' => e = .returned (.string ⟨(byL s.data.toList).toArray⟩) ∧ Below w.heap.size w w' := by
 obtain ⟨i0, hi, hz0, hz1, hz2⟩ := info_parts Tryz.infoByte
 go_enter Tryz.func118, Tryz.ntmps118
 go_wp2
 go_loopw [3, 4] (fun v i wr => ∃ (k : Nat) (ao : Option Addr) (cp : Nat), 2 * k ≤ s.size ∧ i = .int .i64 ((2 * k : Nat) : Int) ∧ v = .slice ao k cp ∧ wr.ownsRow w.heap.size 5 1 v k (Lib.byteCells (byL (s.data.toList.take (2 * k)))) ∧ Below w.heap.size w wr) (fun _ i _ => s.size - (intOf i).toNat)
 case atStart => exact ⟨0, _, _, Nat.zero_le _, rfl, rfl, World.ownsRow_made w #[] 0 (Nat.le_refl _) (by simp [maxLen]) rfl, (Below.refl _ _).alloc (Nat.le_refl _) _⟩
 case round =>
  obtain ⟨k, ao, cp, hk, rfl, rfl, hrow, hbl⟩ := hrel
  by_cases hlt : 2 * k + 1 < s.size
  ·have hk0 : (0 : Int) ≤ 2 * (k : Int) := by omega
   have hk1 : 2 * (k : Int) + 1 < (s.size : Int) := by omega
   have hk2 : 2 * (k : Int) < (s.size : Int) := by omega
   have hk3 : (0 : Int) ≤ 2 * (k : Int) + 1 := by omega
   have hlen : 2 * k + 1 < s.data.toList.length := by rw [Array.length_toList]; exact hlt
   have hl2 : 2 * k < s.size := by omega
   have hT := byL_cells s.data.toList k hlen
   rw [at_getD s (2 * k) hl2, at_getD s (2 * k + 1) hlt] at hT
   obtain ⟨b, hb⟩ : ∃ b : Nat, b = (s[2 * k]'hl2).toNat := ⟨_, rfl⟩
   obtain ⟨c, hc⟩ : ∃ c : Nat, c = (s[2 * k + 1]'hlt).toNat := ⟨_, rfl⟩
   have hb256 : b < 256 := by rw [hb]; exact UInt8.toNat_lt _
   have hc256 : c < 256 := by rw [hc]; exact UInt8.toNat_lt _
   rw [← hb, ← hc] at hT
   have HT := hid hT
   have hib : ∀ W : World, (Instr.index 9 (.string s) (.int .i64 ((2 * k : Nat) : Int))).run Tryz.prog W = .ok (.int .u8 (b : Int)) W := fun W => by rw [hb]; exact run_at s (2 * k) hl2 W
   have hic : ∀ W : World, (Instr.index 9 (.string s) (.int .i64 ((2 * k + 1 : Nat) : Int))).run Tryz.prog W = .ok (.int .u8 (c : Int)) W := fun W => by rw [hc]; exact run_at s (2 * k + 1) hlt W
   have HIB := hid hib
   have HIC := hid hic
   have HROW := hid hrow
   have HBL := hid hbl
   have hsz := hbl.size
   have HDb := hid fun W => l3Digit_any b hb256 W
   have HDc := hid fun W => l3Digit_any c hc256 W
   have hrb := digI_range b hb256
   have hrc := digI_range c hc256
   have HBY : Hid ((16 * digI b + digI c) % 256 = byI b c) := rfl
   generalize digI b = x at *
   generalize digI c = y at *
   clear hib hic hT hb hc hrow hbl
   go_wp2_with fail
   refine wp_region_held (S := fun _ => True) (by kernel_rfl) ?_
   change wpAnyH _ _ _ _ _ _ _ _ (World.drew _)
   refine tkA 0 (.slice ao k cp) rfl trivial ?_
   refine tkA 1 (.string s) rfl trivial ?_
   refine tkA 2 (.int .i64 ((2 * k : Nat) : Int)) rfl trivial ?_
   refine wpAnyH_take (i := 3) (v := .int .u8 (b : Int)) rfl (by kernel_rfl) (by kernel_rfl) (by kernel_rfl) (fun _ _ _ h => h) (.inl ⟨rfl, fun w' _ => exec_index (t := 9) (x := .tmp 14) (i := .tmp 15) (s := s) (k := .i64) (j := ((2 * k : Nat) : Int)) (by rfl) (by go_simp) (by go_simp) (HIB.out w')⟩) trivial ?_
   refine tkA 6 (.string s) rfl trivial ?_
   refine tkA 7 (.int .i64 ((2 * k : Nat) : Int)) rfl trivial ?_
   refine wpAnyH_take (i := 8) (v := .int .i64 ((2 * k + 1 : Nat) : Int)) rfl (by kernel_rfl) (by kernel_rfl) (by kernel_rfl) (fun _ _ _ h => h) (.inl ⟨rfl, fun w' _ => by go_simp; first | exact IntKind.wrap_u8 _ | (rw [IntKind.wrap_i64]; omega)⟩) trivial ?_
   refine wpAnyH_take (i := 9) (v := .int .u8 (c : Int)) rfl (by kernel_rfl) (by kernel_rfl) (by kernel_rfl) (fun _ _ _ h => h) (.inl ⟨rfl, fun w' _ => exec_index (t := 9) (x := .tmp 19) (i := .tmp 21) (s := s) (k := .i64) (j := ((2 * k + 1 : Nat) : Int)) (by rfl) (by go_simp) (by go_simp) (HIC.out w')⟩) trivial ?_
   have hed := enters_of Tryz.func140 (by kernel_rfl) rfl
   refine held_one 4 (by kernel_rfl) (op_calls (f := 140) (args := #[.int .u8 (b : Int)]) rfl rfl (by go_simp) (HDb.out _) ?_)
   rintro e w1 ⟨rfl, rfl⟩
   refine ⟨_, rfl, trivial, ?_⟩
   refine wpAnyH_take (i := 5) (v := .int .i64 (16 * x)) rfl (by kernel_rfl) (by kernel_rfl) (by kernel_rfl) (fun _ _ _ h => h) (.inl ⟨rfl, fun w' _ => by go_simp; first | exact IntKind.wrap_u8 _ | (rw [IntKind.wrap_i64]; omega)⟩) trivial ?_
   refine held_one 10 (by kernel_rfl) (op_calls (f := 140) (args := #[.int .u8 (c : Int)]) rfl rfl (by go_simp) (HDc.out _) ?_)
   rintro e w1 ⟨rfl, rfl⟩
   refine ⟨_, rfl, trivial, ?_⟩
   refine wpAnyH_take (i := 11) (v := .int .i64 (16 * x + y)) rfl (by kernel_rfl) (by kernel_rfl) (by kernel_rfl) (fun _ _ _ h => h) (.inl ⟨rfl, fun w' _ => by go_simp; first | exact IntKind.wrap_u8 _ | (rw [IntKind.wrap_i64]; omega)⟩) trivial ?_
   refine wpAnyH_take (i := 12) (v := .int .u8 ((16 * x + y) % 256)) rfl (by kernel_rfl) (by kernel_rfl) (by kernel_rfl) (fun _ _ _ h => h) (.inl ⟨rfl, fun w' _ => by go_simp; first | exact IntKind.wrap_u8 _ | (rw [IntKind.wrap_i64]; omega)⟩) trivial ?_
   have hbase : w.heap.size ≤ (wr.alloc (.cells #[.int .u8 ((16 * x + y) % 256)] 5)).drew.heap.size := by simp; omega
   rw [HBY.out] at hbase ⊢
   generalize byI b c = z at *
   refine held_one 13 (by kernel_rfl) (op_value (v := .slice (some ⟨wr.heap.size, 0, none⟩) 1 1) (w' := (wr.alloc (.cells #[.int .u8 z] 5)).drew) rfl rfl (by go_simp) ⟨trivial, ?_⟩)
   refine held_one 14 (by kernel_rfl) (op_wp rfl rfl (wp_append_lies _ (.tmp 13) (.tmp 26) 22 rfl w.heap.size 5 i0 (.int .u8 0) 1 1 Tryz.underlying22 hi hz0 hz1 hz2 rfl (by decide) (.slice ao k cp) k _ (by go_simp) (HROW.out.alloc _) ⟨wr.heap.size, 0, none⟩ 1 1 [.int .u8 z] (by go_simp) rfl (cell_byte_new wr _) (by simp [Value.oneCell']) (by decide) (by unfold maxLen; omega) (by omega) hbase (wr.heap.size + 1) (by simp) ?_))
   intro g' cap' w4 hown4 hgrow4 _ hlt4
   have HB4 := hid (append_below HBL.out HROW.out (o := .cells #[.int .u8 z] 5) ⟨hgrow4.os, hgrow4.tape, hgrow4.output, hgrow4.size, hgrow4.block⟩)
   have HOWN4 := hid hown4
   clear hown4 hgrow4
   refine ⟨trivial, held_one 15 (by kernel_rfl) (op_value (v := .slice (some ⟨g', 0, none⟩) (k + 1) cap') (w' := w4) rfl rfl (by go_simp) ⟨trivial, wpAnyH_done (by kernel_rfl) ?_ _⟩)⟩
   go_simp
   go_wp2
   go_roundw
   case rel => exact ⟨k + 1, some ⟨g', 0, none⟩, cap', by omega, by go_num, rfl, by rw [HT.out]; exact HOWN4.out, HB4.out⟩
   case measure => simp [intOf]; omega
  ·have hk1 : ¬ (2 * (k : Int) + 1 < (s.size : Int)) := by omega
   have hcv := conv_bytes hrow
   rw [byL_end k s.data.toList (by rw [Array.length_toList]; show s.size ≤ _; omega)] at hcv
   have HBL := hid hbl
   clear hrow hbl
   go_wp2
   go_ret
   exact ⟨rfl, HBL.out⟩
end Go.Proofs.YtkjdabnglcabiaaGreatDoor
/- spec.l3Cut: the lines of a text. -/
namespace Go.Proofs.YtkjdabnglcabiaaGreatDoor
open Go.RowKit
/-- What has been cut when k bytes have come: where the open line begins, and the lines ahead of it. -/
def linesTo (s : ByteArray) : Nat → Nat × List ByteArray
 | 0 => (0, [])
 | k + 1 => if s.data.toList.getD k 0 = 10 then (k + 1, (linesTo s k).2 ++ [s.extract (linesTo s k).1 k]) else linesTo s k
/-- The lines of a text; the last is what lies behind the last newline. -/
def linesOf (s : ByteArray) : List ByteArray := (linesTo s s.size).2 ++ [s.extract (linesTo s s.size).1 s.size]
theorem linesTo_le (s : ByteArray) (k : Nat) : (linesTo s k).1 ≤ k ∧ (linesTo s k).2.length ≤ k := by
 induction k with
 | zero => simp [linesTo]
 | succ k ih => unfold linesTo; split <;> first | (simp; omega) | omega
theorem linesTo_cut (s : ByteArray) (k : Nat) (h : s.data.toList.getD k 0 = 10) : linesTo s (k + 1) = (k + 1, (linesTo s k).2 ++ [s.extract (linesTo s k).1 k]) := by
 conv => lhs; unfold linesTo
 rw [if_pos h]
theorem linesTo_on (s : ByteArray) (k : Nat) (h : ¬ s.data.toList.getD k 0 = 10) : linesTo s (k + 1) = linesTo s k := by
 conv => lhs; unfold linesTo
 rw [if_neg h]
theorem getD_at (s : ByteArray) (k : Nat) (h : k < s.size) : s.data.toList.getD k 0 = s[k] := by
 have hk : k < s.data.toList.length := by rw [Array.length_toList]; exact h
 rw [List.getD_eq_getElem?_getD, List.getElem?_eq_getElem hk]
 rfl
set_option maxRecDepth 100000 in
set_option maxHeartbeats 1000000 in
theorem l3Cut_any (s : ByteArray) (w : World) (hs : s.size ≤ 1048576) :
  Calls Tryz.prog 116 #[.string s, .int .u8 10] w fun e w' => ∃ v, e = .returned v ∧ w'.ownsRow w.heap.size 9 1 v (linesOf s).length ((linesOf s).map Value.string) ∧ Below w.heap.size w w' := by
 obtain ⟨i0, hi, hz0, hz1, hz2⟩ := info_parts Tryz.info9
 go_enter Tryz.func116, Tryz.ntmps116
 go_wp2
 go_loopw [5, 6, 7] (fun v f i wr => ∃ k : Nat, k ≤ s.size ∧ i = .int .i64 (k : Int) ∧ f = .int .i64 ((linesTo s k).1 : Nat) ∧ wr.ownsRow w.heap.size 9 1 v (linesTo s k).2.length ((linesTo s k).2.map Value.string) ∧ Below w.heap.size w wr) (fun _ _ i _ => s.size - (intOf i).toNat)
 case atStart => exact ⟨0, Nat.zero_le _, rfl, rfl, World.ownsRow_made w #[] 0 (Nat.le_refl _) (by simp [maxLen]) rfl, (Below.refl _ _).alloc (Nat.le_refl _) _⟩
 case round =>
  obtain ⟨k, hk, rfl, rfl, hown, hb⟩ := hrel
  have hcl := linesTo_le s k
  by_cases hlt : k < s.size
  ·have hk0 : (0 : Int) ≤ (k : Int) := by omega
   have hk1 : (k : Int) < (s.size : Int) := by omega
   by_cases h10 : s[k] = 10
   ·have HN := hid (linesTo_cut s k (by rw [getD_at s k hlt]; exact h10))
    have h10' : (((s[k].toNat : Nat) : Int) == 10) = true := by rw [h10]; rfl
    generalize linesTo s k = c at *
    obtain ⟨f, ps⟩ := c
    clear h10
    dsimp only at *
    go_wp2_with (at_builtin; refine wpList_append_own _ rfl _ _ 24 rfl w.heap.size 9 i0 (.string ⟨#[]⟩) 1 16 Tryz.underlying24 hi hz0 hz1 hz2 rfl (by decide) _ _ _ rfl (hown.alloc _) ⟨_, 0, none⟩ 1 1 [.string (s.extract f k)] rfl rfl (cell_one_new _ _ _) (by simp [Value.oneCell']) (by unfold maxLen; omega) (by omega) (by have := hb.size; simp; omega) ?_; intro v' w1 hown' hgrow _)
    have hb1 : Below w.heap.size w w1 := append_below hb hown hgrow
    refine ⟨⟨k + 1, by omega, by go_num, by rw [HN.out]; go_num, ?_, hb1⟩, by simp [intOf]; omega⟩
    rw [HN.out]; simpa using hown'
   ·have HN := hid (linesTo_on s k (by rw [getD_at s k hlt]; exact h10))
    have h10' : (((s[k].toNat : Nat) : Int) == 10) = false := by
     have : s[k].toNat ≠ 10 := fun e => h10 (UInt8.toNat_inj.1 e)
     simp; omega
    generalize linesTo s k = c at *
    obtain ⟨f, ps⟩ := c
    clear h10
    go_wp2
    exact ⟨⟨k + 1, by omega, by go_num, by rw [HN.out], by rw [HN.out]; exact hown, hb⟩, by simp [intOf]; omega⟩
  ·obtain rfl : k = s.size := by omega
   have HL : Hid (linesOf s = (linesTo s s.size).2 ++ [s.extract (linesTo s s.size).1 s.size]) := rfl
   generalize linesTo s s.size = c at *
   obtain ⟨f, ps⟩ := c
   dsimp only at *
   go_wp2_with (at_builtin; refine wpList_append_own _ rfl _ _ 24 rfl w.heap.size 9 i0 (.string ⟨#[]⟩) 1 16 Tryz.underlying24 hi hz0 hz1 hz2 rfl (by decide) _ _ _ rfl (hown.alloc _) ⟨_, 0, none⟩ 1 1 [.string (s.extract f s.size)] rfl rfl (cell_one_new _ _ _) (by simp [Value.oneCell']) (by unfold maxLen; omega) (by omega) (by have := hb.size; simp; omega) ?_; intro v' w1 hown' hgrow _)
   have hb1 : Below w.heap.size w w1 := append_below hb hown hgrow
   go_ret
   exact ⟨_, rfl, by rw [HL.out]; simpa using hown', hb1⟩
end Go.Proofs.YtkjdabnglcabiaaGreatDoor
/- Reading what was written: digits, lines. -/
namespace Go.Proofs.YtkjdabnglcabiaaGreatDoor
open Go.RowKit
theorem digI_hx : ∀ j : Fin 16, digI (hx j.val).toNat = (j.val : Int) := by decide
theorem byL_hexL : ∀ l : List UInt8, byL (hexL l) = l
 | [] => rfl
 | b :: l => by
  have e : hexL (b :: l) = hx (b.toNat / 16) :: hx (b.toNat % 16) :: hexL l := by simp [hexL]
  have hb := b.toNat_lt
  have d1 := digI_hx ⟨b.toNat / 16, by omega⟩
  have d2 := digI_hx ⟨b.toNat % 16, by omega⟩
  rw [e]
  show UInt8.ofNat (byI (hx (b.toNat / 16)).toNat (hx (b.toNat % 16)).toNat).toNat :: byL (hexL l) = b :: l
  rw [byL_hexL l]
  unfold byI
  rw [d1, d2]
  have : ((16 * ((b.toNat / 16 : Nat) : Int) + ((b.toNat % 16 : Nat) : Int)) % 256).toNat = b.toNat := by omega
  rw [show ((16 * (((⟨b.toNat / 16, by omega⟩ : Fin 16).val : Nat) : Int) + (((⟨b.toNat % 16, by omega⟩ : Fin 16).val : Nat) : Int)) % 256).toNat = b.toNat from this]
  congr 1
  exact UInt8.toNat_inj.1 (by rw [UInt8.toNat_ofNat']; omega)
/-- The lines of a list of bytes; the last is what lies behind the last newline. -/
def cutL : List UInt8 → List UInt8 → List (List UInt8)
 | cur, [] => [cur]
 | cur, b :: l => if b = 10 then cur :: cutL [] l else cutL (cur ++ [b]) l
theorem cutL_line : ∀ (l A cur : List UInt8), (∀ b ∈ l, b ≠ 10) → cutL cur (l ++ 10 :: A) = (cur ++ l) :: cutL [] A
 | [], A, cur, _ => by simp [cutL]
 | b :: l, A, cur, h => by
  have hb : b ≠ 10 := h b (by simp)
  show (if b = 10 then _ else cutL (cur ++ [b]) (l ++ 10 :: A)) = _
  rw [if_neg hb, cutL_line l A (cur ++ [b]) (fun x hx => h x (by simp [hx]))]
  simp
theorem cutL_rows : ∀ ss : List ByteArray, cutL [] (rowsL ss) = ss.map (fun s => hexL s.data.toList) ++ [[]]
 | [] => rfl
 | s :: r => by
  have e : rowsL (s :: r) = hexL s.data.toList ++ 10 :: rowsL r := by simp [rowsL]
  rw [e, cutL_line _ _ _ (hexL_no _), cutL_rows r]
  simp
theorem ext_list (s : ByteArray) (f k : Nat) : (s.extract f k).data.toList = (s.data.toList.drop f).take (k - f) := by
 simp [ByteArray.data_extract, Array.toList_extract, List.extract]
theorem lines_cut (s : ByteArray) : ∀ k, k ≤ s.size → cutL [] s.data.toList = (linesTo s k).2.map (fun p => p.data.toList) ++ cutL (s.extract (linesTo s k).1 k).data.toList (s.data.toList.drop k)
 | 0, _ => by
  rw [ext_list]
  simp [linesTo]
 | k + 1, h => by
  have ih := lines_cut s k (by omega)
  have hk : k < s.data.toList.length := by rw [Array.length_toList]; exact h
  have hle := (linesTo_le s k).1
  rw [List.drop_eq_getElem_cons hk] at ih
  have hg : s.data.toList.getD k 0 = s.data.toList[k] := by rw [List.getD_eq_getElem?_getD, List.getElem?_eq_getElem hk]; rfl
  by_cases h10 : s.data.toList.getD k 0 = 10
  ·rw [linesTo_cut s k h10]
   rw [ih]
   have e0 : (s.extract (k + 1) (k + 1)).data.toList = [] := by rw [ext_list]; simp
   simp only [e0]
   rw [hg] at h10
   show _ ++ (if s.data.toList[k] = 10 then _ else _) = _
   rw [if_pos h10]
   simp
  ·rw [linesTo_on s k h10]
   rw [ih]
   rw [hg] at h10
   show _ ++ (if s.data.toList[k] = 10 then _ else _) = _
   rw [if_neg h10]
   congr 2
   rw [ext_list, ext_list, show k + 1 - (linesTo s k).1 = k - (linesTo s k).1 + 1 by omega, List.take_succ_eq_append_getElem (by rw [List.length_drop]; omega)]
   congr 2
   rw [List.getElem_drop]
   congr 1
   omega
theorem linesOf_cut (s : ByteArray) : (linesOf s).map (fun p => p.data.toList) = cutL [] s.data.toList := by
 rw [lines_cut s s.size (Nat.le_refl _)]
 have : s.data.toList.drop s.size = [] := List.drop_eq_nil_of_le (by rw [Array.length_toList]; exact Nat.le_refl _)
 rw [this]
 simp [linesOf, cutL]
end Go.Proofs.YtkjdabnglcabiaaGreatDoor
/- What reading a list means. -/
namespace Go.Proofs.YtkjdabnglcabiaaGreatDoor
open Go.RowKit
/-- What ReadList answers: the valid list whose form the text is, or nothing. -/
def ReadR (s : ByteArray) (m n : Int) (ss : List ByteArray) (ok : Bool) : Prop :=
 (ok = true ∧ okL n ss m = true ∧ formR n ss m = s) ∨ (ok = false ∧ n = 0 ∧ ss = [] ∧ ∀ n' ss', okL n' ss' m = true → formR n' ss' m ≠ s)
theorem okL_parts {n m : Int} {ss : List ByteArray} (h : okL n ss m = true) : isW m = true ∧ (0 ≤ n ∧ n ≤ 3000) ∧ ss.length ≤ 375 ∧ ∀ s ∈ ss, (s.size : Int) = m := by
 unfold okL at h
 simp only [Bool.and_eq_true, decide_eq_true_eq, List.all_eq_true] at h
 exact ⟨h.1, h.2.1, h.2.2.1, h.2.2.2⟩
theorem okL_of {n m : Int} {ss : List ByteArray} (h1 : isW m = true) (h2 : 0 ≤ n ∧ n ≤ 3000) (h3 : ss.length ≤ 375) (h4 : ∀ s ∈ ss, (s.size : Int) = m) : okL n ss m = true := by
 unfold okL
 simp only [Bool.and_eq_true, decide_eq_true_eq, List.all_eq_true]
 exact ⟨h1, h2, h3, h4⟩
theorem formR_data {n m : Int} {ss : List ByteArray} (h : okL n ss m = true) : (formR n ss m).data.toList = formL n.toNat ss := by
 unfold formR; rw [if_pos h]
theorem bytes_ext {a b : ByteArray} (h : a.data.toList = b.data.toList) : a = b := by
 rcases a with ⟨⟨a⟩⟩
 rcases b with ⟨⟨b⟩⟩
 simp at h
 rw [h]
theorem formR_iff {n m : Int} {ss : List ByteArray} {s : ByteArray} (h : okL n ss m = true) : formR n ss m = s ↔ formL n.toNat ss = s.data.toList := by
 rw [← formR_data h]
 exact ⟨fun e => by rw [e], bytes_ext⟩
theorem ReadR.uniq {s : ByteArray} {m n n' : Int} {ss ss' : List ByteArray} {ok ok' : Bool} (h : ReadR s m n ss ok) (h' : ReadR s m n' ss' ok') : n = n' ∧ ss = ss' ∧ ok = ok' := by
 rcases h with ⟨rfl, h1, h2⟩ | ⟨rfl, rfl, rfl, h2⟩
 ·rcases h' with ⟨rfl, h1', h2'⟩ | ⟨_, _, _, h2'⟩
  ·rw [formR_iff h1] at h2
   rw [formR_iff h1', ← h2] at h2'
   obtain ⟨e1, e2⟩ := formL_inj h2'
   have p1 := (okL_parts h1).2.1
   have p2 := (okL_parts h1').2.1
   exact ⟨by omega, e2.symm, rfl⟩
  ·exact absurd h2 (h2' n ss h1)
 ·rcases h' with ⟨rfl, h1', h2'⟩ | ⟨rfl, rfl, rfl, h2'⟩
  ·exact absurd h2' (h2 n' ss' h1')
  ·exact ⟨rfl, rfl, rfl⟩
theorem form_len {n m : Int} {ss : List ByteArray} (h : okL n ss m = true) : 7 ≤ (formR n ss m).size ∧ (formR n ss m).size ≤ 7000 := by
 have e : (formR n ss m).size = (formL n.toNat ss).length := by
  rw [← formR_data h, Array.length_toList]; rfl
 obtain ⟨hw, hn, hl, hall⟩ := okL_parts h
 have hm8 : 1 ≤ m ∧ m ≤ 8 := by simpa [isW] using hw
 have h1 := rowsL_len 8 ss (fun x hx => by have := hall x hx; omega)
 have h2 := dec_len4 n.toNat (by omega)
 have h5 : ss.length * (2 * 8 + 1) ≤ 375 * 17 := Nat.mul_le_mul hl (by omega)
 rw [e]
 unfold formL headL
 simp only [List.length_append, List.length_cons, List.length_nil]
 omega
theorem form_word {n m : Int} {ss : List ByteArray} (h : okL n ss m = true) : (formR n ss m).data.toList.take 5 = [115, 105, 122, 101, 32] := by
 rw [formR_data h]
 unfold formL headL
 simp
/-- Texts that no valid list has as its form. -/
def NoForm (s : ByteArray) (m : Int) : Prop := ∀ n' ss', okL n' ss' m = true → formR n' ss' m ≠ s
theorem noForm_size {s : ByteArray} {m : Int} (h : s.size < 6 ∨ 7000 < s.size) : NoForm s m := fun n' ss' h1 e => by
 have := form_len h1
 rw [e] at this
 omega
theorem noForm_word {s : ByteArray} {m : Int} (h : s.data.toList.take 5 ≠ [115, 105, 122, 101, 32]) : NoForm s m := fun n' ss' h1 e => by
 have := form_word h1
 rw [e] at this
 exact h this
theorem noForm_width {s : ByteArray} {m : Int} (h : isW m = false) : NoForm s m := fun n' ss' h1 _ => by
 have := (okL_parts h1).1
 rw [h] at this; cases this
theorem lines_form {n m : Int} {ss : List ByteArray} (h : okL n ss m = true) : (linesOf (formR n ss m)).map (fun p => p.data.toList) = ([115, 105, 122, 101, 32] ++ Lib.decDigits n.toNat) :: (ss.map (fun s => hexL s.data.toList) ++ [[]]) := by
 rw [linesOf_cut, formR_data h]
 have e : formL n.toNat ss = ([115, 105, 122, 101, 32] ++ Lib.decDigits n.toNat) ++ 10 :: rowsL ss := by simp [formL, headL]
 rw [e, cutL_line _ _ _ ?_, cutL_rows]
 ·simp
 ·intro b hb
  rcases List.mem_append.1 hb with hb | hb
  ·simp only [List.mem_cons, List.not_mem_nil, or_false] at hb
   rcases hb with rfl | rfl | rfl | rfl | rfl <;> decide
  ·exact (valD_dec n.toNat n.toNat (Nat.le_refl _)).2 b hb
/-- Digits read loosely, a line. -/
def byB (p : ByteArray) : ByteArray := ⟨(byL p.data.toList).toArray⟩
/-- The sums that the lines are read as. -/
def secs (ls : List ByteArray) : List ByteArray := (ls.drop 1).dropLast.map byB
theorem secs_form {n m : Int} {ss : List ByteArray} (h : okL n ss m = true) : secs (linesOf (formR n ss m)) = ss := by
 have hl := lines_form h
 generalize linesOf (formR n ss m) = ls at *
 cases ls with
 | nil => simp at hl
 | cons a r =>
  simp only [List.map_cons, List.cons.injEq] at hl
  have h2 := congrArg List.dropLast hl.2
  rw [List.dropLast_concat, ← List.map_dropLast] at h2
  have h3 := congrArg (List.map (fun l => (⟨(byL l).toArray⟩ : ByteArray))) h2
  rw [List.map_map, List.map_map] at h3
  have e1 : ((fun l => (⟨(byL l).toArray⟩ : ByteArray)) ∘ fun p : ByteArray => p.data.toList) = byB := rfl
  rw [e1] at h3
  show ((a :: r).drop 1).dropLast.map byB = ss
  rw [List.drop_one, List.tail_cons, h3]
  conv => rhs; rw [← List.map_id ss]
  congr 1
  funext s
  show (⟨(byL (hexL s.data.toList)).toArray⟩ : ByteArray) = s
  rw [byL_hexL]
theorem first_form {n m : Int} {ss : List ByteArray} (h : okL n ss m = true) {L0 : ByteArray} (h0 : (linesOf (formR n ss m)).head? = some L0) : L0.extract 5 L0.size = decB n.toNat := by
 have hl := lines_form h
 generalize linesOf (formR n ss m) = ls at *
 cases ls with
 | nil => simp at hl
 | cons a r =>
  simp only [List.map_cons, List.cons.injEq] at hl
  simp only [List.head?_cons, Option.some.injEq] at h0
  subst h0
  apply bytes_ext
  rw [ext_list, hl.1]
  have e : a.size = 5 + (Lib.decDigits n.toNat).length := by
   have := congrArg List.length hl.1
   rw [Array.length_toList] at this
   simp only [List.length_append, List.length_cons, List.length_nil] at this
   exact this
  rw [e]
  simp [decB]
theorem decB_inj {n n' : Nat} (h : decB n = decB n') : n = n' := by
 have h1 := decB_data h
 have h2 := decB_data (n := n') rfl
 rw [← h2] at h1
 rw [← (valD_dec n n (Nat.le_refl _)).1, h1, (valD_dec n' n' (Nat.le_refl _)).1]
/-- What spec.ReadList reads loosely and writes again is the text just where a valid list has the text as its form. -/
theorem loose_no {s L0 : ByteArray} {m r : Int} (h0 : (linesOf s).head? = some L0) (hr : NumR (L0.extract 5 L0.size) r) (hn : formR r (secs (linesOf s)) m ≠ s) : NoForm s m := fun n' ss' h1 e => by
 subst e
 rw [secs_form h1] at hn
 rw [first_form h1 h0] at hr
 have p := (okL_parts h1).2.1
 rcases hr with ⟨k, _, hk, rfl⟩ | ⟨_, hk⟩
 ·have := decB_inj hk
  subst this
  exact hn (by rw [Int.toNat_of_nonneg p.1])
 ·exact hk n'.toNat (by omega) rfl
theorem loose_yes {s : ByteArray} {m r : Int} {ss : List ByteArray} (hs : 6 ≤ s.size) (h : formR r ss m = s) : ReadR s m r ss true := by
 refine .inl ⟨rfl, ?_, h⟩
 cases hok : okL r ss m with
 | true => rfl
 | false =>
  have : formR r ss m = ⟨#[]⟩ := by simp [formR, hok]
  rw [this] at h
  subst h
  simp [ByteArray.size] at hs
theorem cutL_begin : ∀ (l A cur : List UInt8), (∀ b ∈ l, b ≠ 10) → cutL cur (l ++ A) = cutL (cur ++ l) A
 | [], A, cur, _ => by simp
 | b :: l, A, cur, h => by
  have hb : b ≠ 10 := h b (by simp)
  show (if b = 10 then _ else cutL (cur ++ [b]) (l ++ A)) = _
  rw [if_neg hb, cutL_begin l A (cur ++ [b]) (fun x hx => h x (by simp [hx]))]
  simp
theorem cutL_head : ∀ (A cur : List UInt8), ∃ t r, cutL cur A = (cur ++ t) :: r
 | [], cur => ⟨[], [], by simp [cutL]⟩
 | b :: A, cur => by
  unfold cutL
  split
  ·exact ⟨[], cutL [] A, by simp⟩
  ·obtain ⟨t, r, h⟩ := cutL_head A (cur ++ [b])
   exact ⟨b :: t, r, by rw [h]; simp⟩
theorem first_len {s : ByteArray} (h : s.data.toList.take 5 = [115, 105, 122, 101, 32]) : ∃ L0 r, linesOf s = L0 :: r ∧ 5 ≤ L0.size := by
 have hl := linesOf_cut s
 rw [← List.take_append_drop 5 s.data.toList, h, cutL_begin _ _ _ (by decide)] at hl
 obtain ⟨t, r, ht⟩ := cutL_head (s.data.toList.drop 5) ([] ++ [115, 105, 122, 101, 32])
 rw [ht] at hl
 cases hls : linesOf s with
 | nil => rw [hls] at hl; simp at hl
 | cons a q =>
  rw [hls] at hl
  simp only [List.map_cons, List.cons.injEq] at hl
  refine ⟨a, q, rfl, ?_⟩
  have := congrArg List.length hl.1
  rw [Array.length_toList] at this
  simp only [List.length_append, List.length_cons, List.length_nil] at this
  have e : a.data.size = a.size := rfl
  omega
/-! The lines one by one -/
theorem rows_begin : ∀ (ss ss' : List ByteArray) (rest : List UInt8), rowsL ss ++ rest = rowsL ss' → ∃ t, ss' = ss ++ t ∧ rest = rowsL t
 | [], ss', rest, h => ⟨ss', rfl, by simpa [rowsL] using h⟩
 | a :: ss, [], rest, h => by simp [rowsL] at h
 | a :: ss, b :: ss', rest, h => by
  have e : ∀ (x : ByteArray) (t : List ByteArray), rowsL (x :: t) = hexL x.data.toList ++ 10 :: rowsL t := fun x t => by simp [rowsL]
  rw [e, e, List.append_assoc, List.cons_append] at h
  obtain ⟨h1, h2⟩ := no_sep _ _ (hexL_no _) (hexL_no _) h
  have hab : a = b := bytes_ext (hexL_inj _ _ h1)
  obtain ⟨t, ht, hr⟩ := rows_begin ss ss' rest h2
  exact ⟨t, by rw [hab, ht]; rfl, hr⟩
theorem form_begin {n n' : Nat} {ss ss' : List ByteArray} {rest : List UInt8} (h : formL n ss ++ rest = formL n' ss') : n = n' ∧ ∃ t, ss' = ss ++ t ∧ rest = rowsL t := by
 unfold formL headL at h
 simp only [List.append_assoc, List.append_cancel_left_eq, List.singleton_append] at h
 have d := valD_dec n n (Nat.le_refl _)
 have d' := valD_dec n' n' (Nat.le_refl _)
 obtain ⟨h1, h2⟩ := no_sep _ _ d.2 d'.2 (by simpa using h)
 exact ⟨by rw [← d.1, ← d'.1, h1], rows_begin _ _ _ h2⟩
/-- Behind the first line there is something, and no line ends in it. -/
theorem noForm_end {s : ByteArray} {m : Int} {n : Nat} {ss : List ByteArray} {rest : List UInt8} (hs : s.data.toList = formL n ss ++ rest) (hne : rest ≠ []) (h : ∀ b ∈ rest, b ≠ 10) : NoForm s m := fun n' ss' h1 e => by
 rw [formR_iff h1, hs] at e
 obtain ⟨_, t, _, ht⟩ := form_begin e.symm
 cases t with
 | nil => exact hne (by simpa [rowsL] using ht)
 | cons a t =>
  refine h 10 ?_ rfl
  rw [ht]
  simp [rowsL]
theorem noForm_end0 {s : ByteArray} {m : Int} (h : ∀ b ∈ s.data.toList, b ≠ 10) : NoForm s m := fun n' ss' h1 e => by
 rw [formR_iff h1] at e
 refine h 10 ?_ rfl
 rw [← e]
 simp [formL, headL]
/-- The next line is no sum. -/
theorem noForm_sum {s : ByteArray} {m : Int} {n : Nat} {ss : List ByteArray} {line rest : List UInt8} (hs : s.data.toList = formL n ss ++ (line ++ 10 :: rest)) (hl : ∀ b ∈ line, b ≠ 10) (h : ∀ p : ByteArray, (p.size : Int) = m → hexL p.data.toList ≠ line) : NoForm s m := fun n' ss' h1 e => by
 rw [formR_iff h1, hs] at e
 obtain ⟨_, t, rfl, ht⟩ := form_begin e.symm
 cases t with
 | nil => simp [rowsL] at ht
 | cons a t =>
  have e2 : rowsL (a :: t) = hexL a.data.toList ++ 10 :: rowsL t := by simp [rowsL]
  rw [e2] at ht
  obtain ⟨h3, _⟩ := no_sep _ _ hl (hexL_no _) ht
  exact h a ((okL_parts h1).2.2.2 a (by simp)) h3.symm
/-- There are too many. -/
theorem noForm_many {s : ByteArray} {m : Int} {n : Nat} {ss : List ByteArray} {rest : List UInt8} (hs : s.data.toList = formL n ss ++ rest) (hne : rest ≠ []) (h : ss.length = 375) : NoForm s m := fun n' ss' h1 e => by
 rw [formR_iff h1, hs] at e
 obtain ⟨_, t, rfl, ht⟩ := form_begin e.symm
 cases t with
 | nil => exact hne (by simpa [rowsL] using ht)
 | cons a t =>
  have := (okL_parts h1).2.2.1
  simp at this
  omega
/-- The first line is no size. -/
theorem noForm_head {s : ByteArray} {m : Int} {line rest : List UInt8} (hs : s.data.toList = line ++ 10 :: rest) (hl : ∀ b ∈ line, b ≠ 10) (h : ∀ n : Nat, n ≤ 3000 → [115, 105, 122, 101, 32] ++ Lib.decDigits n ≠ line) : NoForm s m := fun n' ss' h1 e => by
 rw [formR_iff h1, hs] at e
 have e2 : formL n'.toNat ss' = ([115, 105, 122, 101, 32] ++ Lib.decDigits n'.toNat) ++ 10 :: rowsL ss' := by simp [formL, headL]
 rw [e2] at e
 have hno : ∀ b ∈ [115, 105, 122, 101, 32] ++ Lib.decDigits n'.toNat, b ≠ 10 := by
  intro b hb
  rcases List.mem_append.1 hb with hb | hb
  ·simp only [List.mem_cons, List.not_mem_nil, or_false] at hb
   rcases hb with rfl | rfl | rfl | rfl | rfl <;> decide
  ·exact (valD_dec n'.toNat n'.toNat (Nat.le_refl _)).2 b hb
 obtain ⟨h3, _⟩ := no_sep _ _ hno hl e
 have p := (okL_parts h1).2.1
 exact h n'.toNat (by omega) h3
end Go.Proofs.YtkjdabnglcabiaaGreatDoor
/- spec.ReadList: what is turned away at once. -/
namespace Go.Proofs.YtkjdabnglcabiaaGreatDoor
open Go.RowKit
theorem word_eq (s : ByteArray) : ((s.extract 0 5).toList == [115, 105, 122, 101, 32]) = decide (s.data.toList.take 5 = [115, 105, 122, 101, 32]) := by
 rw [ByteArray.toList_eq, ext_list]
 simp only [List.drop_zero, Nat.sub_zero]
 rw [Bool.eq_iff_iff]
 simp
theorem lines_sizes (s : ByteArray) (h : s.size ≤ 7000) : (linesOf s).length ≤ 7001 ∧ ∀ i, ((linesOf s).getD i ByteArray.empty).size ≤ 7000 := by
 have key : ∀ k, k ≤ s.size → ∀ p ∈ (linesTo s k).2, p.size ≤ 7000 := by
  intro k
  induction k with
  | zero => intro _ p hp; simp [linesTo] at hp
  | succ k ih =>
   intro hk p hp
   unfold linesTo at hp
   split at hp
   ·rcases List.mem_append.1 hp with hp | hp
    ·exact ih (by omega) p hp
    ·simp only [List.mem_cons, List.not_mem_nil, or_false] at hp
     rw [hp, ByteArray.size_extract]; omega
   ·exact ih (by omega) p hp
 have hl := (linesTo_le s s.size).2
 refine ⟨by unfold linesOf; rw [List.length_append]; simp; omega, fun i => ?_⟩
 by_cases hi : i < (linesOf s).length
 ·rw [List.getD_eq_getElem?_getD, List.getElem?_eq_getElem hi]
  have hm := List.getElem_mem hi
  simp only [Option.getD_some]
  generalize (linesOf s)[i] = p at *
  unfold linesOf at hm
  rcases List.mem_append.1 hm with hp | hp
  ·exact key _ (Nat.le_refl _) p hp
  ·simp only [List.mem_cons, List.not_mem_nil, or_false] at hp
   rw [hp, ByteArray.size_extract]; omega
 ·rw [List.getD_eq_getElem?_getD, List.getElem?_eq_none (by omega)]
  simp
theorem byL_len : ∀ l : List UInt8, (byL l).length ≤ l.length
 | [] => by simp [byL]
 | [a] => by simp [byL]
 | a :: b :: r => by
  have := byL_len r
  show ((_ : UInt8) :: byL r).length ≤ _
  simp only [List.length_cons]; omega
theorem byB_size (p : ByteArray) : (byB p).size ≤ p.size := by
 show (byL p.data.toList).toArray.size ≤ _
 rw [List.size_toArray]
 have := byL_len p.data.toList
 rw [Array.length_toList] at this
 exact this
theorem secs_sizes (s : ByteArray) (h : s.size ≤ 7000) : (secs (linesOf s)).length ≤ 7001 ∧ ∀ i, ((secs (linesOf s)).getD i ByteArray.empty).size ≤ 7000 := by
 obtain ⟨h1, h2⟩ := lines_sizes s h
 refine ⟨by unfold secs; rw [List.length_map, List.length_dropLast, List.length_drop]; omega, fun i => ?_⟩
 unfold secs
 by_cases hi : i < (((linesOf s).drop 1).dropLast.map byB).length
 ·rw [List.getD_eq_getElem?_getD, List.getElem?_eq_getElem hi, Option.getD_some, List.getElem_map]
  refine Nat.le_trans (byB_size _) ?_
  rw [List.getElem_dropLast, List.getElem_drop]
  have := h2 (1 + i)
  rw [List.length_map, List.length_dropLast, List.length_drop] at hi
  rwa [List.getD_eq_getElem?_getD, List.getElem?_eq_getElem (by omega), Option.getD_some] at this
 ·rw [List.getD_eq_getElem?_getD, List.getElem?_eq_none (by omega)]
  simp
/-- The sums of the first j lines behind the first. -/
def secTo (ls : List ByteArray) (j : Nat) : List ByteArray := ((ls.drop 1).take j).map byB
theorem secTo_step (ls : List ByteArray) (j : Nat) (h : j + 1 < ls.length) : secTo ls (j + 1) = secTo ls j ++ [byB (ls.getD (j + 1) ByteArray.empty)] := by
 unfold secTo
 rw [List.take_add_one, List.map_append]
 congr 1
 rw [List.getElem?_drop, Nat.add_comm 1 j, List.getD_eq_getElem?_getD, List.getElem?_eq_getElem h]
 rfl
theorem secTo_end (ls : List ByteArray) : secTo ls (ls.length - 2) = secs ls := by
 unfold secTo secs
 rw [List.dropLast_eq_take, List.length_drop]
 congr 2
theorem secTo_len (ls : List ByteArray) (j : Nat) (h : j ≤ ls.length - 2) : (secTo ls j).length = j := by
 unfold secTo
 rw [List.length_map, List.length_take, List.length_drop]; omega
/-- What the two readers answer. -/
def ReadA (s : ByteArray) (m : Int) (w : World) (e : Ending) (w' : World) : Prop :=
 ∃ (v : Value) (n : Int) (ss : List ByteArray) (ok : Bool), e = .returned (.tuple #[.agg #[.int .i64 n, v], .bool ok]) ∧ ReadR s m n ss ok ∧ w'.ownsRow w.heap.size 9 1 v ss.length (ss.map Value.string) ∧ Below w.heap.size w w'
theorem ReadA.no {s : ByteArray} {m : Int} {w w' : World} (h : NoForm s m) (hb : Below w.heap.size w w') : ReadA s m w (.returned (.tuple #[.agg #[.int .i64 0, .slice none 0 0], .bool false])) w' :=
 ⟨_, 0, [], false, rfl, .inr ⟨rfl, rfl, rfl, h⟩, World.ownsRow_nil _ _ _ _, hb⟩
set_option maxRecDepth 100000 in
set_option maxHeartbeats 1000000 in
theorem specReadList_turned (s : ByteArray) (m : Int) (w : World) (hs : s.size ≤ maxLen) (h : s.size < 6 ∨ 7000 < s.size ∨ (6 ≤ s.size ∧ s.size ≤ 7000 ∧ s.data.toList.take 5 ≠ [115, 105, 122, 101, 32])) :
  Calls Tryz.prog 101 #[.string s, .int .i64 m] w (ReadA s m w) := by
 unfold maxLen at hs
 have HB := hid ((Below.refl w.heap.size w).alloc (Nat.le_refl _) (.cells #[.int .i64 0, .slice none 0 0] 54))
 rcases h with h | h | ⟨h6, h7, hw⟩
 ·have hN := hid (noForm_size (m := m) (s := s) (.inl h))
  have h' : (s.size : Int) < 6 := by omega
  go_enter Tryz.func101, Tryz.ntmps101
  go_wp2
  exact bodyPost_ret (v := .tuple #[.agg #[.int .i64 0, .slice none 0 0], .bool false]) (by simp [results, Tryz.results101, go_sem]) rfl (ReadA.no hN.out HB.out)
 ·have hN := hid (noForm_size (m := m) (s := s) (.inr h))
  have h' : ¬ ((s.size : Int) < 6) := by omega
  have h'' : (7000 : Int) < (s.size : Int) := by omega
  go_enter Tryz.func101, Tryz.ntmps101
  go_wp2
  exact bodyPost_ret (v := .tuple #[.agg #[.int .i64 0, .slice none 0 0], .bool false]) (by simp [results, Tryz.results101, go_sem]) rfl (ReadA.no hN.out HB.out)
 ·have hN := hid (noForm_word (m := m) hw)
  have h' : ¬ ((s.size : Int) < 6) := by omega
  have h'' : ¬ ((7000 : Int) < (s.size : Int)) := by omega
  have hq : ((s.extract 0 5).toList == [115, 105, 122, 101, 32]) = false := by rw [word_eq s]; simpa using hw
  have h5 : (5 : Int) ≤ (s.size : Int) := by omega
  clear hw
  go_enter Tryz.func101, Tryz.ntmps101
  go_wp2
  exact bodyPost_ret (v := .tuple #[.agg #[.int .i64 0, .slice none 0 0], .bool false]) (by simp [results, Tryz.results101, go_sem]) rfl (ReadA.no hN.out HB.out)
end Go.Proofs.YtkjdabnglcabiaaGreatDoor
