import Derived.Test.YtlnkhbnbcmllaaaGreatRows
import Derived.WalkKit
import Derived.WalkSpells
import Derived.WalkLawsBesides
/- The sums of kilnpass: what Sum64 and its bytes come to, on lists of bytes; the walks of the small functions. -/
namespace Go.Proofs.YtlnkhbnbcmllaaaGreat
open Go.RowKit

theorem ret_int {k : IntKind} {a b : Int} (h : a = b) : Ending.returned (.int k a) = .returned (.int k b) := by rw [h]

def fnv (v b : Int) : Int := IntKind.u64.wrap (bits .xor .u64 v (IntKind.u64.wrap b) * 1099511628211)
def fnvStart : Int := 14695981039346656037
def fnvList (l : List UInt8) : Int := l.foldl (fun v c => fnv v (c.toNat : Int)) fnvStart
theorem fnvList_nil : fnvList [] = 14695981039346656037 := rfl
theorem fnvList_snoc (l : List UInt8) (c : UInt8) : fnvList (l ++ [c]) = fnv (fnvList l) (c.toNat : Int) := by
  unfold fnvList; rw [List.foldl_append]; rfl
theorem take_snoc (s : ByteArray) (k : Nat) (h : k < s.size) : s.data.toList.take (k + 1) = s.data.toList.take k ++ [s[k]] := by
  rw [List.take_succ_eq_append_getElem (by simpa using h)]; rfl
theorem take_all (s : ByteArray) (k : Nat) (h : ¬ k < s.size) : s.data.toList.take k = s.data.toList := by
  rw [List.take_of_length_le (by simp; omega)]

set_option maxRecDepth 100000 in
set_option maxHeartbeats 400000 in
theorem sumStep_any (v b : Int) (w : World) :
    Calls Tryz.prog 98 #[.int .u64 v, .int .u8 b] w fun e w' => e = .returned (.int .u64 (fnv v b)) ∧ w' = w := by
  go_enter Tryz.func98, Tryz.ntmps98
  go_wp2
  go_ret
  exact ⟨rfl, rfl⟩

set_option maxRecDepth 100000 in
set_option maxHeartbeats 400000 in
theorem sum64_any (s : ByteArray) (w : World) (hs : s.size ≤ maxLen) :
    Calls Tryz.prog 94 #[.string s] w fun e w' => e = .returned (.int .u64 (fnvList s.data.toList)) ∧ w' = w := by
  unfold maxLen at hs
  go_enter Tryz.func94, Tryz.ntmps94
  go_wp2
  go_loop [3, 4] (fun n i => ∃ k : Nat, k ≤ s.size ∧ i = .int .i64 k ∧ n = .int .u64 (fnvList (s.data.toList.take k))) (fun _ i => s.size - (intOf i).toNat)
  case atStart => exact ⟨0, Nat.zero_le _, rfl, by rw [List.take_zero, fnvList_nil]⟩
  case round =>
    obtain ⟨k, hk, rfl, rfl⟩ := hrel
    by_cases hlt : k < s.size
    · have HS : Hid (fnvList (s.data.toList.take (k + 1)) = fnv (fnvList (s.data.toList.take k)) (s[k].toNat : Int)) := by
        rw [take_snoc s k hlt]; exact fnvList_snoc _ _
      go_wp2_with (go_at_call 98; refine (sumStep_any _ _ _).mono ?_; rintro e w' ⟨rfl, rfl⟩)
      go_round
      case rel => exact ⟨k + 1, by omega, by go_num, by rw [HS.out]⟩
      case measure => simp [intOf]; omega
    · go_wp2
      go_ret
      exact ⟨ret_int (by rw [take_all s k hlt]), rfl⟩

set_option maxRecDepth 100000 in
set_option maxHeartbeats 400000 in
theorem l1Sum64_any (s : ByteArray) (w : World) (hs : s.size ≤ maxLen) :
    Calls Tryz.prog 71 #[.string s] w fun e w' => e = .returned (.int .u64 (fnvList s.data.toList)) ∧ w' = w := by
  unfold maxLen at hs
  go_enter Tryz.func71, Tryz.ntmps71
  go_wp2
  go_loop [3, 4] (fun n i => ∃ k : Nat, k ≤ s.size ∧ i = .int .i64 k ∧ n = .int .u64 (fnvList (s.data.toList.take k))) (fun _ i => s.size - (intOf i).toNat)
  case atStart => exact ⟨0, Nat.zero_le _, rfl, by rw [List.take_zero, fnvList_nil]⟩
  case round =>
    obtain ⟨k, hk, rfl, rfl⟩ := hrel
    by_cases hlt : k < s.size
    · have HS : Hid (fnvList (s.data.toList.take (k + 1)) = fnv (fnvList (s.data.toList.take k)) (s[k].toNat : Int)) := by
        rw [take_snoc s k hlt]; exact fnvList_snoc _ _
      go_wp2
      go_round
      case rel => exact ⟨k + 1, by omega, by go_num, by rw [HS.out]; rfl⟩
      case measure => simp [intOf]; omega
    · go_wp2
      go_ret
      exact ⟨ret_int (by rw [take_all s k hlt]), rfl⟩

def isW (n : Int) : Bool := decide (1 ≤ n ∧ n ≤ 8)

set_option maxRecDepth 100000 in
set_option maxHeartbeats 400000 in
theorem isWidth_any (n : Int) (w : World) :
    Calls Tryz.prog 79 #[.int .i64 n] w fun e w' => e = .returned (.bool (isW n)) ∧ w' = w := by
  by_cases h1 : 1 ≤ n
  · by_cases h2 : n ≤ 8
    · have e : isW n = true := by simp [isW, h1, h2]
      rw [e]
      go_enter Tryz.func79, Tryz.ntmps79
      go_wp2
      go_ret
      exact ⟨by simp, rfl⟩
    · have e : isW n = false := by simp [isW]; omega
      rw [e]
      go_enter Tryz.func79, Tryz.ntmps79
      go_wp2
      go_ret
      exact ⟨by simp, rfl⟩
  · have e : isW n = false := by simp [isW]; omega
    rw [e]
    go_enter Tryz.func79, Tryz.ntmps79
    go_wp2
    go_ret
    exact ⟨by simp, rfl⟩

set_option maxRecDepth 100000 in
set_option maxHeartbeats 400000 in
theorem l1In_any (n lo hi : Int) (w : World) :
    Calls Tryz.prog 45 #[.int .i64 n, .int .i64 lo, .int .i64 hi] w fun e w' => e = .returned (.bool (decide (lo ≤ n ∧ n ≤ hi))) ∧ w' = w := by
  by_cases h1 : lo ≤ n
  · by_cases h2 : n ≤ hi
    · have e : decide (lo ≤ n ∧ n ≤ hi) = true := by simp [h1, h2]
      rw [e]
      go_enter Tryz.func45, Tryz.ntmps45
      go_wp2
      go_ret
      exact ⟨by simp, rfl⟩
    · have e : decide (lo ≤ n ∧ n ≤ hi) = false := by simp; omega
      rw [e]
      go_enter Tryz.func45, Tryz.ntmps45
      go_wp2
      go_ret
      exact ⟨by simp, rfl⟩
  · have e : decide (lo ≤ n ∧ n ≤ hi) = false := by simp; omega
    rw [e]
    go_enter Tryz.func45, Tryz.ntmps45
    go_wp2
    go_ret
    exact ⟨by simp, rfl⟩

set_option maxRecDepth 100000 in
set_option maxHeartbeats 400000 in
theorem l1Width_any (n : Int) (w : World) :
    Calls Tryz.prog 46 #[.int .i64 n] w fun e w' => e = .returned (.bool (isW n)) ∧ w' = w := by
  go_enter Tryz.func46, Tryz.ntmps46
  go_wp2_with (go_at_call 45; refine (l1In_any _ _ _ _).mono ?_; rintro e w' ⟨rfl, rfl⟩)
  go_ret
  exact ⟨by simp [isW], rfl⟩

end Go.Proofs.YtlnkhbnbcmllaaaGreat
/- The bytes of a sum: spec.l1Bytes. -/
namespace Go.Proofs.YtlnkhbnbcmllaaaGreat
open Go.RowKit
def by8 (v : Int) : UInt8 := UInt8.ofNat (v % 256).toNat
/-- The low bytes of a number, the highest first. -/
def lowB (v : Int) : Nat → List UInt8
  | 0 => []
  | k + 1 => by8 (v / 256 ^ k) :: lowB v k
theorem lowB_length (v : Int) (k : Nat) : (lowB v k).length = k := by
  induction k with
  | zero => rfl
  | succ k ih => simp [lowB, ih]
def U64 (v : Int) : Prop := 0 ≤ v ∧ v < 18446744073709551616
theorem wrap_u64 (n : Int) : U64 (IntKind.u64.wrap n) := by
  rw [IntKind.wrap_u64]; exact ⟨Int.emod_nonneg _ (by decide), Int.emod_lt_of_pos _ (by decide)⟩
theorem wrap_u64_of (n : Int) (h : U64 n) : IntKind.u64.wrap n = n := by
  rw [IntKind.wrap_u64]; exact Int.emod_eq_of_lt h.1 h.2
theorem U64.div {v : Int} (h : U64 v) (k : Nat) : U64 (v / 256 ^ k) :=
  ⟨Int.ediv_nonneg h.1 (Int.pow_nonneg (by decide)), Int.lt_of_le_of_lt (Int.ediv_le_self _ h.1) h.2⟩
theorem div_succ (v : Int) (k : Nat) : v / 256 ^ k / 256 = v / 256 ^ (k + 1) := by
  rw [Int.ediv_ediv_of_nonneg (Int.pow_nonneg (by decide)), Int.pow_succ]
theorem U64.wrap_tdiv {v : Int} (h : U64 v) (k : Nat) : IntKind.u64.wrap ((v / 256 ^ k).tdiv 256) = v / 256 ^ (k + 1) := by
  rw [Int.tdiv_eq_ediv_of_nonneg (h.div k).1, div_succ]; exact wrap_u64_of _ (h.div _)
theorem fnvList_u64 (l : List UInt8) : U64 (fnvList l) := by
  unfold fnvList
  have : ∀ (l : List UInt8) (v : Int), U64 v → U64 (l.foldl (fun v c => fnv v (c.toNat : Int)) v) := by
    intro l
    induction l with
    | nil => intro v h; exact h
    | cons c l ih => intro v h; exact ih _ (wrap_u64 _)
  exact this l _ ⟨by decide, by decide⟩
theorem conv_one (wx : World) (q : Int) : (convert 135 9 (.slice (some ⟨wx.heap.size, 0, none⟩) 1 1)).run Tryz.prog (wx.alloc (.cells #[.int .u8 q] 5)) = .ok (.string ⟨#[UInt8.ofNat q.toNat]⟩) (wx.alloc (.cells #[.int .u8 q] 5)) :=
  run_convert_bytes_arg _ 135 5 Tryz.underlying135 Tryz.underlying5 wx.heap.size 0 1 1 [q] rfl (fun i hi => by
    obtain rfl : i = 0 := by omega
    simp [World.cell?_alloc_new]) 9 Tryz.underlying9
theorem one_app (b : UInt8) (l : List UInt8) : (ByteArray.mk #[b] ++ ByteArray.mk l.toArray) = ByteArray.mk (b :: l).toArray :=
  ByteArray.mk_append_mk [b] l
set_option maxRecDepth 100000 in
set_option maxHeartbeats 400000 in
theorem l1Bytes_any (v : Int) (n : Int) (w : World) (h0 : U64 v) (h1 : 0 ≤ n) (h2 : n ≤ 8) :
    Calls Tryz.prog 70 #[.int .u64 v, .int .i64 n] w fun e w' => e = .returned (.string ⟨(lowB v n.toNat).toArray⟩) ∧ Below w.heap.size w w' := by
  obtain ⟨m, rfl⟩ := Int.eq_ofNat_of_zero_le h1
  have hcv := conv_one
  go_enter Tryz.func70, Tryz.ntmps70
  go_wp2
  go_loopw [0, 5, 6] (fun x out i wr => ∃ k : Nat, k ≤ m ∧ i = .int .i64 k ∧ x = .int .u64 (v / 256 ^ k) ∧ out = .string ⟨(lowB v k).toArray⟩ ∧ Below w.heap.size w wr) (fun _ _ i _ => m - (intOf i).toNat)
  case atStart => exact ⟨0, Nat.zero_le _, rfl, by simp, rfl, Below.refl _ _⟩
  case round =>
    obtain ⟨k, hk, rfl, rfl, rfl, hb⟩ := hrel
    have hx : 0 ≤ v / 256 ^ k := (h0.div k).1
    have HQ : Hid (IntKind.u64.wrap ((v / 256 ^ k).tdiv 256) = v / 256 ^ (k + 1)) := h0.wrap_tdiv k
    have HL : Hid (lowB v (k + 1) = by8 (v / 256 ^ k) :: lowB v k) := rfl
    have hl : (lowB v k).length ≤ 8 := by rw [lowB_length]; omega
    by_cases hlt : k < m
    · generalize v / 256 ^ k = x at *
      generalize lowB v k = l at *
      go_wp2
      refine ⟨⟨k + 1, by omega, by go_num, by rw [HQ.out], ?_, hb.alloc hb.size _⟩, by simp [intOf]; omega⟩
      rw [HL.out, one_app]; rfl
    · obtain rfl : k = m := by omega
      go_wp2
      go_ret
      exact ⟨by simp, hb⟩
end Go.Proofs.YtlnkhbnbcmllaaaGreat
