/- l1Bend changes one place of a text. -/
import Derived.Test.YtfamkeligbiidaaGreatDoorDrawList
import Derived.Test.YtfamkeligbiidaaGreatDoorListBox
namespace Go.Proofs.YtfamkeligbiidaaGreatDoor
open Go.RowKit
theorem grown_pick {A B C : World} {b : Nat} (h : A.grownBy B (some b)) (k : B.grownBy C (some b)) : A.grownBy C (some b) := grownBy_trans h k (fun g e => .inl (by cases e; rfl))
theorem grown_alloc {A B : World} {b : Nat} (h : A.grownBy B (some b)) (o : Obj) : A.grownBy (B.alloc o) (some b) := grownBy_trans h (World.grownBy_alloc B o none) (fun g e => by cases e)
theorem grown_drew {A B : World} {b : Nat} (h : A.grownBy B (some b)) : A.grownBy B.drew (some b) := ⟨h.os, h.tape, h.output, h.size, h.block⟩
theorem grown_undrew {A B : World} {b : Nat} (h : A.drew.grownBy B (some b)) : A.grownBy B (some b) := ⟨h.os, h.tape, h.output, h.size, h.block⟩
theorem sixS_new (w : World) (a b c d e f : ByteArray) (ha : a.size = 1) (hb : b.size = 1) (hc : c.size = 1) (hd : d.size = 1) (he : e.size = 1) (hf : f.size = 1) {x : Nat} (hx : x < 6) : ∃ z : ByteArray, z.size = 1 ∧ (w.alloc (.cells #[.string a, .string b, .string c, .string d, .string e, .string f] 9)).cell? ⟨w.heap.size, x, none⟩ = some (.string z) := by
  rw [cellOf (World.alloc_heap_new w _)]
  obtain rfl | rfl | rfl | rfl | rfl | rfl : x = 0 ∨ x = 1 ∨ x = 2 ∨ x = 3 ∨ x = 4 ∨ x = 5 := by omega
  · exact ⟨a, ha, rfl⟩
  · exact ⟨b, hb, rfl⟩
  · exact ⟨c, hc, rfl⟩
  · exact ⟨d, hd, rfl⟩
  · exact ⟨e, he, rfl⟩
  · exact ⟨f, hf, rfl⟩
theorem new_keptS {w w4 : World} {o : Obj} {rb x : Nat} {z : Value} (hg : (w.alloc o).drew.grownBy w4 (some rb)) (hr : rb < w.heap.size) (h : (w.alloc o).cell? ⟨w.heap.size, x, none⟩ = some z) : w4.cell? ⟨w.heap.size, x, none⟩ = some z := by
  have e : w4.heap[w.heap.size]? = (w.alloc o).heap[w.heap.size]? := hg.block w.heap.size (by show _ < (w.alloc o).heap.size; simp) (fun e => by simp at e; omega)
  rw [← h]
  unfold World.cell?
  rw [e]
theorem conv_byte (W : World) (q : Int) : (convert 22 9 (.slice (some ⟨W.heap.size, 0, none⟩) 1 1)).run Tryz.prog (W.alloc (.cells #[.int .u8 q] 5)) = .ok (.string ⟨#[UInt8.ofNat q.toNat]⟩) (W.alloc (.cells #[.int .u8 q] 5)) := conv_one W q
set_option maxRecDepth 100000 in
set_option maxHeartbeats 4000000 in
theorem l1Bend_any (rb : Nat) (a : Option Addr) (nn cap : Nat) (bs : List Int) (p : Nat) (s : ByteArray) (w : World) (h : Rd w rb a nn cap bs p) (hp : p ≤ 800000) (hs : s.size ≤ 7000) :
    Calls Tryz.prog 45 #[.pointer (some ⟨rb, 0, none⟩), .string s] w fun e w' => ∃ t : ByteArray, e = .returned (.string t) ∧ t.size ≤ 14001 ∧ w.grownBy w' (some rb) := by
  have HP := hid fun (q : Nat) (n : Int) (W : World) (hr : Rd W rb a nn cap bs q) (h1 : 1 ≤ n) (h2 : n ≤ 100000) (hq : q ≤ 1000000) => pick_any rb a nn cap bs q n W hr h1 h2 hq
  go_enter Tryz.func45, Tryz.ntmps45
  go_wp2_with fail
  refine (HP.out p 256 _ h (by omega) (by omega) (by omega)).mono ?_
  rintro e w1 ⟨y, rfl, hy, hr1, hg1⟩
  have HR1 := hid hr1
  have HG1 := hid hg1
  have hm : y * (s.size + 1) ≤ 255 * (s.size + 1) := Nat.mul_le_mul_right _ (by omega)
  obtain ⟨K, hK⟩ : ∃ K : Nat, K = y * (s.size + 1) / 256 := ⟨_, rfl⟩
  have hKs : K ≤ s.size := by omega
  have hKe : ((y : Int) * ((s.size : Int) + 1)) / 256 = (K : Int) := by rw [hK]; rfl
  have hm0 : 0 ≤ (y : Int) * ((s.size : Int) + 1) := Int.mul_nonneg (by omega) (by omega)
  have hm1 : (y : Int) * ((s.size : Int) + 1) ≤ 10000000 := by
    have : ((y * (s.size + 1) : Nat) : Int) ≤ 10000000 := by omega
    simpa using this
  clear hr1 h hg1 hm hK
  go_wp2_with fail
  rw [hKe]
  refine (HP.out (p + 1) 5 _ HR1.out (by omega) (by omega) (by omega)).mono ?_
  rintro e w2 ⟨x, rfl, hx, hr2, hg2⟩
  have HG2 := hid (grown_pick HG1.out hg2)
  have HR2 := hid hr2
  clear hr2 hg2 hKe hm0 hm1
  have hKi : (K : Int) ≤ (s.size : Int) := by omega
  have hend : (s ++ s.extract K s.size).size ≤ 14001 := by rw [ByteArray.size_append, ByteArray.size_extract]; omega
  have hx4 : x = 0 ∨ x = 1 ∨ x = 2 ∨ x = 3 ∨ x = 4 := by omega
  rcases hx4 with rfl | rfl | rfl | rfl | rfl
  · go_wp2
    go_ret
    exact ⟨_, rfl, by rw [ByteArray.size_extract]; omega, HG2.out⟩
  · have hlt := HR2.out.lt
    have HRA : Hid (Rd (w2.alloc (.cells #[.string ⟨#[32]⟩, .string ⟨#[10]⟩, .string ⟨#[48]⟩, .string ⟨#[120]⟩, .string ⟨#[102]⟩, .string ⟨#[0]⟩] 9)).drew rb a nn cap bs (p + 1 + 1)) := HR2.out.keep (((Below.refl (rb + 1) w2).alloc hlt _).drew)
    have HRB : Hid (Rd w2.drew rb a nn cap bs (p + 1 + 1)) := HR2.out
    have HTA : Hid (∀ (w4 : World) (x : Nat), x < 6 → (w2.alloc (.cells #[.string ⟨#[32]⟩, .string ⟨#[10]⟩, .string ⟨#[48]⟩, .string ⟨#[120]⟩, .string ⟨#[102]⟩, .string ⟨#[0]⟩] 9)).drew.grownBy w4 (some rb) → ∃ z : ByteArray, z.size = 1 ∧ w4.cell? ⟨w2.heap.size, x, none⟩ = some (.string z)) := fun w4 x hx hg => by
      obtain ⟨z, hz1, hz⟩ := sixS_new w2 ⟨#[32]⟩ ⟨#[10]⟩ ⟨#[48]⟩ ⟨#[120]⟩ ⟨#[102]⟩ ⟨#[0]⟩ rfl rfl rfl rfl rfl rfl hx
      exact ⟨z, hz1, new_keptS hg hlt hz⟩
    have HTB := hid fun (w4 : World) (x : Nat) (hx : x < 6) => sixS_new w4 ⟨#[32]⟩ ⟨#[10]⟩ ⟨#[48]⟩ ⟨#[120]⟩ ⟨#[102]⟩ ⟨#[0]⟩ rfl rfl rfl rfl rfl rfl hx
    go_wp2_with fail
    go_region_with (go_at_call 19; first
      | (refine (HP.out (p + 1 + 1) 6 _ HRA.out (by omega) (by omega) (by omega)).mono ?_; rintro e w4 ⟨x4, rfl, hx4, hr4, hg4⟩; obtain ⟨z, hz1, hz⟩ := HTA.out w4 x4 (by omega) hg4; have hf := grown_pick (grown_drew (grown_alloc HG2.out _)) hg4)
      | (refine (HP.out (p + 1 + 1) 6 _ HRB.out (by omega) (by omega) (by omega)).mono ?_; rintro e w4 ⟨x4, rfl, hx4, hr4, hg4⟩; obtain ⟨z, hz1, hz⟩ := HTB.out w4 x4 (by omega); have hf := grown_alloc (grown_pick (grown_drew HG2.out) hg4) (.cells #[.string ⟨#[32]⟩, .string ⟨#[10]⟩, .string ⟨#[48]⟩, .string ⟨#[120]⟩, .string ⟨#[102]⟩, .string ⟨#[0]⟩] 9)))
    all_goals go_wp2
    all_goals go_ret
    all_goals exact ⟨_, rfl, by rw [ByteArray.size_append, ByteArray.size_append, ByteArray.size_extract, ByteArray.size_extract, hz1]; omega, hf⟩
  · by_cases hj : K < s.size
    · have hji : (K : Int) < (s.size : Int) := by omega
      have hji1 : (K : Int) + 1 ≤ (s.size : Int) := by omega
      go_wp2
      go_region
      all_goals go_wp2
      all_goals go_ret
      all_goals exact ⟨_, rfl, by rw [ByteArray.size_append, ByteArray.size_extract, ByteArray.size_extract]; omega, grown_drew HG2.out⟩
    · have hji : ¬ ((K : Int) < (s.size : Int)) := by omega
      go_wp2
      go_ret
      exact ⟨_, rfl, hend, HG2.out⟩
  · by_cases hj : K < s.size
    · have hji : (K : Int) < (s.size : Int) := by omega
      have hji1 : (K : Int) + 1 ≤ (s.size : Int) := by omega
      have hcv := conv_byte
      have ew : IntKind.i64.wrap ((K : Int) + 1) = (K : Int) + 1 := by rw [IntKind.wrap_i64]; omega
      have hk0 : (0 : Int) ≤ (K : Int) := by omega
      have hk1 : (0 : Int) ≤ (K : Int) + 1 := by omega
      have HRB : Hid (Rd w2.drew rb a nn cap bs (p + 1 + 1)) := HR2.out
      go_wp2_with fail
      go_region_with (go_at_call 19; refine (HP.out (p + 1 + 1) 8 _ HRB.out (by omega) (by omega) (by omega)).mono ?_; rintro e w4 ⟨x4, rfl, hx4, hr4, hg4⟩; have hf := grown_pick (grown_drew HG2.out) hg4; have hu : IntKind.u64.wrap (x4 : Int) = (x4 : Int) := by (simp [IntKind.wrap, IntKind.bits, IntKind.signed]; omega))
      all_goals go_wp2
      all_goals go_ret
      all_goals exact ⟨_, rfl, by rw [ByteArray.size_append, ByteArray.size_append, ByteArray.size_extract, ByteArray.size_extract]; show _ + 1 + _ ≤ _; omega, grown_alloc hf _⟩
    · have hji : ¬ ((K : Int) < (s.size : Int)) := by omega
      go_wp2
      go_ret
      exact ⟨_, rfl, hend, HG2.out⟩
  · go_wp2
    go_ret
    exact ⟨_, rfl, hend, HG2.out⟩
end Go.Proofs.YtfamkeligbiidaaGreatDoor
