/- spec.l3Digit, spec.l3Number. -/
import Derived.Test.YtfamkeligbiidaaGreatDoorNamesLaw
namespace Go.Proofs.YtfamkeligbiidaaGreatDoor
open Go.RowKit
def digI (b : Nat) : Int := if 48 ≤ b ∧ b ≤ 57 then (b : Int) - 48 else (b : Int) - 87
set_option maxRecDepth 100000 in
set_option maxHeartbeats 400000 in
theorem l3Digit_any (b : Nat) (hb : b < 256) (w : World) : Calls Tryz.prog 69 #[.int .u8 (b : Int)] w fun e w' => e = .returned (.int .i64 (digI b)) ∧ w' = w := by
  by_cases h1 : 48 ≤ b
  · have h1' : (48 : Int) ≤ (b : Int) := by omega
    by_cases h2 : b ≤ 57
    · have h2' : (b : Int) ≤ 57 := by omega
      have e : digI b = (b : Int) - 48 := by simp [digI, h1, h2]
      rw [e]; clear e
      go_enter Tryz.func69, Tryz.ntmps69
      go_wp2
      go_ret
      exact ⟨by go_num, rfl⟩
    · have h2' : ¬ ((b : Int) ≤ 57) := by omega
      have e : digI b = (b : Int) - 87 := by unfold digI; rw [if_neg (by omega)]
      rw [e]; clear e
      go_enter Tryz.func69, Tryz.ntmps69
      go_wp2
      go_ret
      exact ⟨by go_num, rfl⟩
  · have h1' : ¬ ((48 : Int) ≤ (b : Int)) := by omega
    have e : digI b = (b : Int) - 87 := by unfold digI; rw [if_neg (by omega)]
    rw [e]; clear e
    go_enter Tryz.func69, Tryz.ntmps69
    go_wp2
    go_ret
    exact ⟨by go_num, rfl⟩
theorem dec_digits : ∀ f n : Nat, n ≤ f → ∀ b ∈ Lib.decDigits n, 48 ≤ b.toNat ∧ b.toNat ≤ 57
  | f, n, h => by
    by_cases h10 : n < 10
    · rw [Lib.decDigits, dif_pos h10]
      intro b hb
      simp only [List.mem_cons, List.not_mem_nil, or_false] at hb
      rw [hb, dig_nat n h10]; omega
    · rw [Lib.decDigits, dif_neg h10]
      cases f with
      | zero => omega
      | succ f =>
      intro b hb
      rcases List.mem_append.1 hb with hb | hb
      · exact dec_digits f (n / 10) (by omega) b hb
      · simp only [List.mem_cons, List.not_mem_nil, or_false] at hb
        rw [hb, dig_nat (n % 10) (by omega)]; omega
theorem dec_len4 (n : Nat) (h : n ≤ 9999) : 1 ≤ (Lib.decDigits n).length ∧ (Lib.decDigits n).length ≤ 4 := by
  by_cases h1 : n < 10
  · rw [Lib.decDigits, dif_pos h1]; simp
  · rw [Lib.decDigits, dif_neg h1]
    by_cases h2 : n / 10 < 10
    · rw [Lib.decDigits, dif_pos h2]; simp
    · rw [Lib.decDigits, dif_neg h2]
      by_cases h3 : n / 10 / 10 < 10
      · rw [Lib.decDigits, dif_pos h3]; simp
      · rw [Lib.decDigits, dif_neg h3]
        rw [Lib.decDigits, dif_pos (by omega)]; simp
theorem valD_take (s : ByteArray) (k : Nat) (h : k < s.size) : valD (s.data.toList.take (k + 1)) = valD (s.data.toList.take k) * 10 + (s[k].toNat - 48) := by
  have hk : k < s.data.toList.length := by rw [Array.length_toList]; exact h
  rw [List.take_succ_eq_append_getElem hk]
  unfold valD
  rw [List.foldl_append]
  rfl
/-- What l3Number answers. -/
def NumR (s : ByteArray) (r : Int) : Prop := (∃ n : Nat, n ≤ 9999 ∧ decB n = s ∧ r = n) ∨ (r = -1 ∧ ∀ n : Nat, n ≤ 9999 → decB n ≠ s)
theorem decB_data {n : Nat} {s : ByteArray} (h : decB n = s) : Lib.decDigits n = s.data.toList := by
  subst h; simp [decB]
theorem num_size {s : ByteArray} (h : s.size < 1 ∨ 4 < s.size) : NumR s (-1) := by
  refine .inr ⟨rfl, fun n hn e => ?_⟩
  have e' := decB_data e
  have hl := dec_len4 n hn
  rw [e', Array.length_toList] at hl
  have : s.data.size = s.size := rfl
  omega
theorem num_digit {s : ByteArray} (k : Nat) (hk : k < s.size) (h : s[k].toNat < 48 ∨ 57 < s[k].toNat) : NumR s (-1) := by
  refine .inr ⟨rfl, fun n hn e => ?_⟩
  have e' := decB_data e
  have hk' : k < s.data.toList.length := by rw [Array.length_toList]; exact hk
  have hd := dec_digits n n (Nat.le_refl _) s[k] (by rw [e']; exact List.getElem_mem hk')
  omega
theorem num_other {s : ByteArray} (h : decB (valD s.data.toList) ≠ s) : NumR s (-1) := by
  refine .inr ⟨rfl, fun n hn e => h ?_⟩
  have e' := decB_data e
  rw [← e', (valD_dec n n (Nat.le_refl _)).1]
  exact e
theorem pow_step {v d : Nat} (k : Nat) (hv : v < 10 ^ k) (hd : d ≤ 9) : v * 10 + d < 10 ^ (k + 1) := by
  rw [Nat.pow_succ]; omega
set_option maxRecDepth 100000 in
set_option maxHeartbeats 1000000 in
theorem l3Number_any (s : ByteArray) (w : World) (hs : s.size ≤ maxLen) :
    Calls Tryz.prog 48 #[.string s] w fun e w' => ∃ r : Int, e = .returned (.int .i64 r) ∧ NumR s r ∧ Below w.heap.size w w' := by
  unfold maxLen at hs
  by_cases h1 : s.size < 1
  · have h1' : (s.size : Int) < 1 := by omega
    go_enter Tryz.func48, Tryz.ntmps48
    go_wp2
    go_ret
    exact ⟨-1, rfl, num_size (.inl h1), Below.refl _ _⟩
  · have h1' : ¬ ((s.size : Int) < 1) := by omega
    by_cases h4 : 4 < s.size
    · have h4' : (4 : Int) < (s.size : Int) := by omega
      go_enter Tryz.func48, Tryz.ntmps48
      go_wp2
      go_ret
      exact ⟨-1, rfl, num_size (.inr h4), Below.refl _ _⟩
    · have h4' : ¬ ((4 : Int) < (s.size : Int)) := by omega
      go_enter Tryz.func48, Tryz.ntmps48
      go_wp2
      go_loopw [3, 4] (fun v i wr => ∃ k : Nat, k ≤ s.size ∧ i = .int .i64 (k : Int) ∧ v = .int .i64 ((valD (s.data.toList.take k) : Nat) : Int) ∧ valD (s.data.toList.take k) < 10 ^ k ∧ wr = w) (fun _ i _ => s.size - (intOf i).toNat)
      case atStart => exact ⟨0, Nat.zero_le _, rfl, rfl, by simp [valD], rfl⟩
      case round =>
        obtain ⟨k, hk, rfl, rfl, hv, rfl⟩ := hrel
        have hp : 10 ^ k ≤ 10 ^ 4 := Nat.pow_le_pow_right (by omega) (by omega)
        by_cases hlt : k < s.size
        · have hk0 : (0 : Int) ≤ (k : Int) := by omega
          have hk1 : (k : Int) < (s.size : Int) := by omega
          have HT := hid (valD_take s k hlt)
          have HNO := hid (num_digit k hlt)
          have hb256 := UInt8.toNat_lt s[k]
          have HP := hid (fun (hd : s[k].toNat - 48 ≤ 9) => pow_step (d := s[k].toNat - 48) k hv hd)
          have HV := hid hv
          obtain ⟨b, hb⟩ : ∃ b : Nat, b = s[k].toNat := ⟨_, rfl⟩
          have hb' : (s[k].toNat : Int) = (b : Int) := by rw [hb]
          rw [← hb] at HT HNO HP hb256
          obtain ⟨v, hvv⟩ : ∃ v : Nat, v = valD (s.data.toList.take k) := ⟨_, rfl⟩
          rw [← hvv] at HT HP HV hv
          have hv9 : v < 10000 := by omega
          rw [← hvv]
          clear hb hvv hv
          by_cases hlo : b < 48
          · have hlo' : (b : Int) < 48 := by omega
            go_wp2
            go_ret
            exact ⟨-1, rfl, HNO.out (.inl hlo), Below.refl _ _⟩
          · have hlo' : ¬ ((b : Int) < 48) := by omega
            by_cases hhi : 57 < b
            · have hhi' : (57 : Int) < (b : Int) := by omega
              go_wp2
              go_ret
              exact ⟨-1, rfl, HNO.out (.inr hhi), Below.refl _ _⟩
            · have hhi' : ¬ ((57 : Int) < (b : Int)) := by omega
              go_wp2
              exact ⟨⟨k + 1, by omega, by go_num, by rw [HT.out]; go_num, by rw [HT.out]; exact HP.out (by omega), by simp⟩, by simp [intOf]; omega⟩
        · obtain rfl : k = s.size := by omega
          have e : (s.data.toList.take s.size) = s.data.toList := take_all s s.size (by omega)
          rw [e] at hv ⊢
          have HN := hid (num_other (s := s))
          have HY : Hid (decB (valD s.data.toList) = s → NumR s (valD s.data.toList : Nat)) := fun h => .inl ⟨valD s.data.toList, by omega, h, rfl⟩
          generalize valD s.data.toList = v at *
          have hv9 : v < 10000 := by omega
          have HD := hid fun W => l3Dec_any v v W (Nat.le_refl _) (by omega)
          clear e hv hp
          go_wp2_with fail
          refine (HD.out _).mono ?_
          rintro e w1 ⟨rfl, hb1⟩
          by_cases he : (decB v).toList = s.toList
          · have he' : ((decB v).toList == s.toList) = true := by simpa using he
            have HE := hid (HY.out (by apply ByteArray.ext; apply Array.ext'; rwa [ByteArray.toList_eq, ByteArray.toList_eq] at he))
            generalize decB v = d at *
            go_wp2
            go_ret
            exact ⟨_, rfl, HE.out, hb1⟩
          · have he' : ((decB v).toList == s.toList) = false := by simpa using he
            have HE := hid (HN.out (fun e => he (by rw [e])))
            generalize decB v = d at *
            go_wp2
            go_ret
            exact ⟨_, rfl, HE.out, hb1⟩
end Go.Proofs.YtfamkeligbiidaaGreatDoor
