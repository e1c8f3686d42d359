import Derived.Test.YtlnkhbnbcmllaaaGreatArgs
import Derived.Test.YtlnkhbnbcmllaaaGreatBytes
import Derived.Test.YtlnkhbnbcmllaaaGreatStrs
import Derived.Deep.RegionWith
/- eqList: two lists are the same. -/
namespace Go.Proofs.YtlnkhbnbcmllaaaGreat
open Go.RowKit
end Go.Proofs.YtlnkhbnbcmllaaaGreat
/- The marks that the exact laws lay into an answer: markText, markStringS, heldStringS. -/
namespace Go.Proofs.YtlnkhbnbcmllaaaGreat
open Go.RowKit
/-- The decimal digits of a number, by fuel. -/
def decsF : Nat → Nat → List UInt8
  | 0, _ => []
  | f + 1, m => if m = 0 then [] else decsF f (m / 10) ++ [(48 + UInt8.ofNat (m % 10))]
theorem decsF_same : ∀ (f g m : Nat), m ≤ f → m ≤ g → decsF f m = decsF g m
  | 0, 0, _, _, _ => rfl
  | 0, g + 1, m, h, _ => by
    obtain rfl : m = 0 := by omega
    simp [decsF]
  | f + 1, 0, m, _, h => by
    obtain rfl : m = 0 := by omega
    simp [decsF]
  | f + 1, g + 1, m, h1, h2 => by
    unfold decsF
    by_cases e : m = 0
    · simp [e]
    · rw [if_neg e, if_neg e, decsF_same f g (m / 10) (by omega) (by omega)]
def decs (m : Nat) : List UInt8 := decsF m m
theorem decs_zero : decs 0 = [] := rfl
theorem decs_step (m : Nat) (h : 0 < m) : decs m = decs (m / 10) ++ [(48 + UInt8.ofNat (m % 10))] := by
  obtain ⟨k, rfl⟩ : ∃ k, m = k + 1 := ⟨m - 1, by omega⟩
  show decsF (k + 1) (k + 1) = _
  unfold decsF
  rw [if_neg (by omega), decsF_same k ((k + 1) / 10) ((k + 1) / 10) (by omega) (Nat.le_refl _)]
  rfl
theorem decsF_len : ∀ (f m : Nat), (decsF f m).length ≤ m
  | 0, _ => by simp [decsF]
  | f + 1, m => by
    unfold decsF
    split
    · simp
    · have := decsF_len f (m / 10)
      simp; omega
theorem decs_len (m : Nat) : (decs m).length ≤ m := decsF_len m m
def markB (k : Nat) : ByteArray := ⟨(109 :: decs k).toArray⟩
set_option maxRecDepth 100000 in
set_option maxHeartbeats 400000 in
theorem markText_any (k : Nat) (w : World) (h1 : 1 ≤ k) (h2 : k ≤ 4400000) :
    Calls Tryz.prog 64 #[.int .i64 k] w fun e w' => e = .returned (.string (markB k)) ∧ Below w.heap.size w w' := by
  have hcv := conv_one
  have hk0 : ¬ ((k : Int) ≤ 0) := by omega
  go_enter Tryz.func64, Tryz.ntmps64
  go_wp2
  go_loopw [0, 3] (fun x out wr => ∃ (m : Nat) (l : List UInt8), m ≤ k ∧ l.length ≤ k ∧ x = .int .i64 m ∧ out = .string ⟨l.toArray⟩ ∧ decs m ++ l = decs k ∧ Below w.heap.size w wr) (fun x _ _ => (intOf x).toNat)
  case atStart => exact ⟨k, [], Nat.le_refl _, by simp, rfl, rfl, by simp, Below.refl _ _⟩
  case round =>
    obtain ⟨m, l, hm, hll, rfl, rfl, hd, hb⟩ := hrel
    by_cases hlt : 0 < m
    · have HD : Hid (decs (m / 10) ++ ((48 + UInt8.ofNat (m % 10)) :: l) = decs k) := by
        show _ = _
        rw [decs_step m hlt] at hd; simpa using hd
      have hl2 : l.length + 1 ≤ k := by
        have := congrArg List.length HD.out
        have h3 := decs_len k
        simp at this; omega
      clear hd
      go_wp2
      refine ⟨⟨m / 10, (48 + UInt8.ofNat (m % 10)) :: l, by omega, by simp; omega, by go_num, by rw [one_app], HD.out, hb.alloc hb.size _⟩, by simp [intOf]; omega⟩
    · obtain rfl : m = 0 := by omega
      have HD : Hid (l = decs k) := by
        show l = decs k
        rw [decs_zero] at hd; simpa using hd
      clear hd
      go_wp2
      go_ret
      refine ⟨?_, hb⟩
      show Ending.returned (.string _) = _
      rw [one_app, HD.out]; rfl
def marks (k n : Nat) : List ByteArray := (List.range n).map fun t => markB (k + t)
theorem marks_length (k n : Nat) : (marks k n).length = n := by simp [marks]
theorem marks_get (k n i : Nat) (h : i < n) : (marks k n).getD i ByteArray.empty = markB (k + i) := by simp [marks, h]
set_option maxRecDepth 100000 in
set_option maxHeartbeats 400000 in
theorem heldStringS_any (v : Value) (k n : Nat) (w : World) (hv : Reads w v (marks k n)) (h1 : 1 ≤ k) (h2 : k + n ≤ 4400000) :
    Calls Tryz.prog 68 #[v, .int .i64 k] w fun e w' => e = .returned (.int .i64 ((k + n : Nat) : Int)) ∧ Below w.heap.size w w' := by
  obtain ⟨a, ca, rfl, hca⟩ := hv.form
  rw [marks_length] at *
  go_enter Tryz.func68, Tryz.ntmps68
  go_wp2
  go_loopw [1, 5] (fun x i wr => ∃ m : Nat, m ≤ n ∧ i = .int .i64 m ∧ x = .int .i64 ((k + m : Nat) : Int) ∧ Below w.heap.size w wr) (fun _ i _ => n - (intOf i).toNat)
  case atStart => exact ⟨0, Nat.zero_le _, rfl, rfl, Below.refl _ _⟩
  case round =>
    obtain ⟨m, hm, rfl, rfl, hb⟩ := hrel
    by_cases hlt : m < n
    · obtain ⟨b, o, rfl, hbl, hc⟩ := hca m hlt
      rw [marks_get k n m hlt] at hc
      have hd := (hb.cell (p := ⟨b, o + m, none⟩) hbl).trans hc
      have HM := fun W => markText_any (k + m) W (by omega) (by omega)
      have hbs := hb.size
      clear hca hc hv
      obtain ⟨j, hj⟩ : ∃ j, j = k + m := ⟨_, rfl⟩
      rw [← hj] at HM hd ⊢
      have HJ : Hid (j = k + m) := hj
      have hj2 : j ≤ 4399999 := by omega
      clear hj
      generalize markB j = q at *
      have HQ : Hid (∀ W : World, Calls Tryz.prog 64 #[.int .i64 j] W fun e w' => e = .returned (.string q) ∧ Below W.heap.size W w') := HM
      clear HM
      go_wp2
      go_region_with (go_at_call 64; refine (HQ.out _).mono ?_; rintro e w1 ⟨rfl, hb1⟩; have hd1 := (hb1.cell (p := ⟨b, o + m, none⟩) (Nat.lt_of_lt_of_le hbl hbs)).trans hd)
      all_goals
        go_wp2
        go_roundw
        case rel => exact ⟨m + 1, by omega, by go_num, by rw [HJ.out]; go_num, hb.trans (Below.mono ⟨hb1.os, hb1.tape, hb1.output, hb1.size, hb1.block⟩ hbs)⟩
        case measure => simp [intOf]; omega
    · obtain rfl : m = n := by omega
      go_wp2
      go_ret
      exact ⟨rfl, hb⟩
/-- A row of which the first m strings bear marks. -/
def mixed (k m : Nat) (xs : List ByteArray) : List Value := (marks k m ++ xs.drop m).map Value.string
theorem mixed_get (k m : Nat) (xs : List ByteArray) (h : m < xs.length) : (mixed k m xs)[m]? = some (.string (xs.getD m ByteArray.empty)) := by
  simp [mixed, List.getElem?_append, marks_length, h]
theorem mixed_set (k m : Nat) (xs : List ByteArray) (h : m < xs.length) : (mixed k m xs).set m (.string (markB (k + m))) = mixed k (m + 1) xs := by
  unfold mixed
  rw [← List.map_set, List.set_append_right _ _ (by rw [marks_length]; exact Nat.le_refl _), marks_length, Nat.sub_self]
  congr 1
  rw [List.drop_eq_getElem_cons h, List.set_cons_zero]
  unfold marks
  rw [List.range_succ, List.map_append]
  simp
end Go.Proofs.YtlnkhbnbcmllaaaGreat
/- What the laws ask of lists: markList, heldList. -/
namespace Go.Proofs.YtlnkhbnbcmllaaaGreat
open Go.RowKit
end Go.Proofs.YtlnkhbnbcmllaaaGreat
/- markStringS turns the row's own block alone. -/
namespace Go.Proofs.YtlnkhbnbcmllaaaGreat
open Go.RowKit
theorem grown_same {A B C : World} {o : Option Nat} (h : A.grownBy B o) (k : B.grownBy C o) : A.grownBy C o :=
  ⟨k.os.trans h.os, k.tape.trans h.tape, k.output.trans h.output, Nat.le_trans h.size k.size, fun j hj hne => (k.block j (Nat.lt_of_lt_of_le hj h.size) hne).trans (h.block j hj hne)⟩
theorem grown_below' {A B : World} {o : Option Nat} (h : Below A.heap.size A B) : A.grownBy B o := ⟨h.os, h.tape, h.output, h.size, fun k hk _ => h.block k hk⟩
theorem grown_refl (A : World) (o : Option Nat) : A.grownBy A o := ⟨rfl, rfl, rfl, Nat.le_refl _, fun _ _ _ => rfl⟩
set_option maxRecDepth 100000 in
set_option maxHeartbeats 400000 in
theorem markStringS_grown (v : Value) (k base : Nat) (xs : List ByteArray) (w : World) (hown : w.ownsRow base 9 1 v xs.length (xs.map Value.string)) (h1 : 1 ≤ k) (h2 : k + xs.length ≤ 4400000) :
    Calls Tryz.prog 34 #[v, .int .i64 k] w fun e w' => e = .returned (.int .i64 ((k + xs.length : Nat) : Int)) ∧ w'.ownsRow base 9 1 v xs.length ((marks k xs.length).map Value.string) ∧ w.grownBy w' v.ownBlock := by
  obtain ⟨a, cap, rfl, ha⟩ := row_form hown
  go_enter Tryz.func34, Tryz.ntmps34
  go_wp2
  go_loopw [1, 5] (fun x i wr => ∃ m : Nat, m ≤ xs.length ∧ i = .int .i64 m ∧ x = .int .i64 ((k + m : Nat) : Int) ∧ wr.ownsRow base 9 1 (.slice a xs.length cap) xs.length (mixed k m xs) ∧ w.grownBy wr (Value.slice a xs.length cap).ownBlock) (fun _ i _ => xs.length - (intOf i).toNat)
  case atStart => exact ⟨0, Nat.zero_le _, rfl, rfl, by simpa [mixed, marks] using hown, grown_refl _ _⟩
  case round =>
    obtain ⟨m, hm, rfl, rfl, hr, hb⟩ := hrel
    by_cases hlt : m < xs.length
    · obtain ⟨g, rfl, hg⟩ := ha (by omega)
      have HM := fun W => markText_any (k + m) W (by omega) (by omega)
      have HX := mixed_set k m xs hlt
      have HG := mixed_get k m xs hlt
      obtain ⟨j, hj⟩ : ∃ j, j = k + m := ⟨_, rfl⟩
      rw [← hj] at HM HX ⊢
      have HJ : Hid (j = k + m) := hj
      have hj2 : j ≤ 4399999 := by omega
      have HB := hid hb
      clear hj ha hown hb
      generalize markB j = q at *
      have HQ : Hid (∀ W : World, Calls Tryz.prog 64 #[.int .i64 j] W fun e w' => e = .returned (.string q) ∧ Below W.heap.size W w') := HM
      have HXX : Hid ((mixed k m xs).set m (.string q) = mixed k (m + 1) xs) := HX
      have HGG : Hid ((mixed k m xs)[m]? = some (.string (xs.getD m ByteArray.empty))) := HG
      clear HM HX HG
      go_wp2_with (go_at_call 64; refine (HQ.out _).mono ?_; rintro e w1 ⟨rfl, hb1⟩; have hr1 := Below.row hb1 hr; have hc1 := (hr1.cellAt m (by omega)).trans HGG.out; have hf1 := hr1.frozenAt m)
      have hst := (hr1.stored m (.string q)).1
      rw [HXX.out] at hst
      refine ⟨⟨m + 1, by omega, by go_num, by rw [HJ.out]; go_num, hst, ?_⟩, by simp [intOf]; omega⟩
      exact grown_same (grown_same HB.out (grown_below' hb1)) (grownBy_setCellAt w1 g m (.string q))
    · obtain rfl : m = xs.length := by omega
      have HB := hid hb
      clear hb
      go_wp2
      go_ret
      refine ⟨rfl, ?_, HB.out⟩
      simpa [mixed] using hr
end Go.Proofs.YtlnkhbnbcmllaaaGreat
