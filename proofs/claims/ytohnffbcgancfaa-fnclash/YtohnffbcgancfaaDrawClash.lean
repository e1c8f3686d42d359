/- DrawClash. -/
import Derived.Test.YtohnffbcgancfaaDraw
import Derived.Test.YtohnffbcgancfaaClashLaw
namespace Go.Proofs.Ytohnffbcgancfaa
open Go.RowKit
theorem conv_three {w : World} {g : Nat} {b1 b2 b3 : Int} (h : w.heap[g]? = some (.cells #[.int .u8 b1, .int .u8 b2, .int .u8 b3] 5 (0, 0))) (K : Nat) (hK : K ≤ 3) :
    (convert 31 9 (.slice (some ⟨g, 0, none⟩) K 3)).run Try.prog w = .ok (.string (strOfNums ([b1, b2, b3].take K))) w := by
  refine run_convert_bytes_arg w 31 5 Try.underlying31 Try.underlying5 g 0 K 3 ([b1, b2, b3].take K) (by simp; omega) (fun i hi => ?_) 9 Try.underlying9
  rw [Nat.zero_add, cell_of_heap h]
  have h3 : i = 0 ∨ i = 1 ∨ i = 2 := by omega
  rcases h3 with rfl | rfl | rfl <;> simp [hi]
theorem tx_app {ts : List ByteArray} {t : ByteArray} {m : Nat} (h : ∀ j, (tx ts j).size ≤ m) (ht : t.size ≤ m) (j : Nat) : (tx (ts ++ [t]) j).size ≤ m := by
  unfold tx at *
  rw [List.getD_eq_getElem?_getD, List.getElem?_append]
  split
  · have := h j; rw [List.getD_eq_getElem?_getD] at this; exact this
  · by_cases e : j - ts.length = 0
    · rw [e]; exact ht
    · rw [List.getElem?_eq_none (by simp; omega)]; simp
theorem two_new (w : World) (a b : Int) {x : Nat} (hx : x < 2) : ∃ z : Int, (w.alloc (.cells #[.int .i64 a, .int .i64 b] 3)).cell? ⟨w.heap.size, x, none⟩ = some (.int .i64 z) := by
  rw [cell_of_heap (World.alloc_heap_new w _)]
  obtain rfl | rfl : x = 0 ∨ x = 1 := by omega
  · exact ⟨a, rfl⟩
  · exact ⟨b, rfl⟩
theorem five_new (w : World) (a b c d e : Int) {x : Nat} (hx : x < 5) : ∃ z : Int, (w.alloc (.cells #[.int .i64 a, .int .i64 b, .int .i64 c, .int .i64 d, .int .i64 e] 3)).cell? ⟨w.heap.size, x, none⟩ = some (.int .i64 z) := by
  rw [cell_of_heap (World.alloc_heap_new w _)]
  obtain rfl | rfl | rfl | rfl | rfl : x = 0 ∨ x = 1 ∨ x = 2 ∨ x = 3 ∨ x = 4 := by omega
  · exact ⟨a, rfl⟩
  · exact ⟨b, rfl⟩
  · exact ⟨c, rfl⟩
  · exact ⟨d, rfl⟩
  · exact ⟨e, rfl⟩
theorem new_kept {w w4 : World} {o : Obj} {rb x : Nat} {z : Int} (hg : (w.alloc o).drew.grownBy w4 (some rb)) (hr : rb < w.heap.size) (h : (w.alloc o).cell? ⟨w.heap.size, x, none⟩ = some (.int .i64 z)) : w4.cell? ⟨w.heap.size, x, none⟩ = some (.int .i64 z) := by
  have e : w4.heap[w.heap.size]? = (w.alloc o).heap[w.heap.size]? := hg.block w.heap.size (by show _ < (w.alloc o).heap.size; simp) (fun e => by simp at e; omega)
  rw [← h]
  unfold World.cell?
  rw [e]
theorem two_kept {w w4 : World} {a b : Int} {rb x : Nat} (hg : (w.alloc (.cells #[.int .i64 a, .int .i64 b] 3)).drew.grownBy w4 (some rb)) (hr : rb < w.heap.size) (hx : x < 2) : ∃ z : Int, w4.cell? ⟨w.heap.size, x, none⟩ = some (.int .i64 z) :=
  let ⟨z, hz⟩ := two_new w a b hx
  ⟨z, new_kept hg hr hz⟩
theorem five_kept {w w4 : World} {a b c d e : Int} {rb x : Nat} (hg : (w.alloc (.cells #[.int .i64 a, .int .i64 b, .int .i64 c, .int .i64 d, .int .i64 e] 3)).drew.grownBy w4 (some rb)) (hr : rb < w.heap.size) (hx : x < 5) : ∃ z : Int, w4.cell? ⟨w.heap.size, x, none⟩ = some (.int .i64 z) :=
  let ⟨z, hz⟩ := five_new w a b c d e hx
  ⟨z, new_kept hg hr hz⟩
theorem row_base {W : World} {b b' : Nat} {e : TypeId} {size : Nat} {v : Value} {n : Nat} {xs : List Value} (h : W.ownsRow b e size v n xs) (hb : b' ≤ b) : W.ownsRow b' e size v n xs := by
  obtain ⟨h1, h2⟩ := h
  refine ⟨h1, ?_⟩
  rcases h2 with h2 | ⟨g, cap, cur, e1, h3, h4⟩
  · exact .inl h2
  · exact .inr ⟨g, cap, cur, e1, Nat.le_trans hb h3, h4⟩
theorem row_shape {W : World} {b : Nat} {e : TypeId} {size : Nat} {v : Value} {n : Nat} {xs : List Value} (h : W.ownsRow b e size v n xs) : ∃ ao cp, v = .slice ao n cp := by
  rcases h with ⟨_, ⟨rfl, hn⟩ | ⟨g, cap, cur, rfl, _⟩⟩
  · exact ⟨none, 0, by rw [hn]⟩
  · exact ⟨_, cap, rfl⟩
def vlen : Value → Nat
  | .slice _ n _ => n
  | _ => 0
theorem tailA {w w3 w4 : World} {B n : Nat} {o : Obj} {v : Value} {xs : List Value} (hB : w.heap.size < B) (hr : w.heap.size < w3.heap.size) (hrow : w3.ownsRow B 9 1 v n xs) (hb : Below w.heap.size w w3) (hg : (w3.alloc o).drew.grownBy w4 (some w.heap.size)) :
    w4.ownsRow w.heap.size 9 1 v n xs ∧ Below w.heap.size w w4 := by
  have r1 : (w3.alloc o).drew.ownsRow B 9 1 v n xs := hrow.alloc o
  refine ⟨row_base (r1.kept hg (.inr fun e => ?_)) (Nat.le_of_lt hB), ((hb.alloc hb.size o).drew).trans (grown_below hg (by show _ < (w3.alloc o).heap.size; simp; omega))⟩
  have := (hrow.lt _ e).1
  omega
theorem tailB {w w3 w4 : World} {B n : Nat} {o : Obj} {v : Value} {xs : List Value} (hB : w.heap.size < B) (hr : w.heap.size < w3.heap.size) (hrow : w3.ownsRow B 9 1 v n xs) (hb : Below w.heap.size w w3) (hg : w3.drew.grownBy w4 (some w.heap.size)) :
    (w4.alloc o).ownsRow w.heap.size 9 1 v n xs ∧ Below w.heap.size w (w4.alloc o) := by
  have r1 : w3.drew.ownsRow B 9 1 v n xs := hrow
  have b4 : Below w.heap.size w w4 := hb.drew.trans (grown_below hg hr)
  refine ⟨row_base ((r1.kept hg (.inr fun e => ?_)).alloc o) (Nat.le_of_lt hB), b4.alloc b4.size o⟩
  have := (hrow.lt _ e).1
  omega
theorem own_ne {w : World} {B rb : Nat} {v : Value} {n : Nat} {xs : List Value} (h : w.ownsRow B 9 1 v n xs) (hB : rb < B) : v.ownBlock = none ∨ v.ownBlock ≠ some rb := by
  refine .inr fun e => ?_
  have := (h.lt rb e).1
  omega
set_option maxRecDepth 100000 in
set_option maxHeartbeats 4000000 in
theorem drawClash_any (a : Option Addr) (n cap : Nat) (zs : List Int) (w : World) (h : BytesIn w a n cap zs) (hn : n ≤ maxLen) :
    Calls Try.prog 22 #[.slice a n cap] w fun e w' => ∃ (v : Value) (k : Int) (ts : List ByteArray), e = .returned (.tuple #[v, .int .i64 k]) ∧ w'.ownsRow w.heap.size 9 1 v ts.length (ts.map Value.string) ∧ ts.length ≤ 3000 ∧ (∀ i, (tx ts i).size ≤ 10) ∧ Below w.heap.size w w' := by
  obtain ⟨i0, hi, hz0, hz1, hz2⟩ := info_parts Try.info9
  go_enter Try.func22, Try.ntmps22
  go_wp2_with fail
  refine (l1Open_any a n cap zs _ h hn).mono ?_
  rintro e w1 ⟨rfl, nn, bs, hr1, hb1⟩
  have HP := hid fun (q : Nat) (n : Int) (W : World) (hr : Rd W w.heap.size a nn cap bs q) (h1 : 1 ≤ n) (h2 : n ≤ 100000) (hq : q ≤ 1000000) => pick_any w.heap.size a nn cap bs q n W hr h1 h2 hq
  have HR1 := hid (hr1.keep ((Below.refl (w.heap.size + 1) w1).alloc hr1.lt (.cells #[] 9)))
  have HO1 := hid (World.ownsRow_made (base := w1.heap.size) (e := 9) (size := 1) w1 #[] 0 (Nat.le_refl _) (by simp [maxLen]) rfl)
  have HB1 := hid (hb1.alloc hb1.size (.cells #[] 9))
  have hlt := hr1.lt
  clear hr1 hb1 h
  go_wp2_with fail
  refine (HP.out 0 40 _ HR1.out (by omega) (by omega) (by omega)).mono ?_
  rintro e w2 ⟨y, rfl, hy, hr2, hg2⟩
  have HO2 := hid (HO1.out.kept hg2 (.inr (fun e => by simp [Value.ownBlock] at e; omega)))
  have HB2 := hid (HB1.out.trans (grown_below hg2 HR1.out.lt))
  have HR2 := hid hr2
  clear hr2 hg2 HO1 HR1 HB1
  generalize w1.heap.size = B at *
  have hB2 : B < w2.heap.size := (HO2.out.lt B rfl).2
  go_wp2
  go_loopw [5, 7] (fun v i' wr => ∃ (i p : Nat) (ts : List ByteArray), i ≤ 10 + y ∧ ts.length = i ∧ i' = .int .i64 i ∧ p ≤ 1 + 4 * i ∧ (∀ j, (tx ts j).size ≤ 10) ∧ Rd wr w.heap.size a nn cap bs p ∧ wr.ownsRow B 9 1 v i (ts.map Value.string) ∧ Below w.heap.size w wr ∧ B < wr.heap.size) (fun _ i' _ => 10 + y - (intOf i').toNat)
  case atStart => exact ⟨0, 1, [], Nat.zero_le _, rfl, rfl, by omega, fun j => by simp [tx], HR2.out, by simpa using HO2.out, HB2.out, hB2⟩
  case round =>
    obtain ⟨i, p, ts, hiy, hl, rfl, hp, hsz, hrd, hrow, hbl, hBw⟩ := hrel
    have HL := hid hl
    have HSZ := hid hsz
    have HRD := hid hrd
    have HBL := hid hbl
    clear hl hsz hrd hbl
    by_cases hil : i < 10 + y
    · go_wp2_with fail
      refine (HP.out p 26 _ HRD.out (by omega) (by omega) (by omega)).mono ?_
      rintro e w3 ⟨x1, rfl, hx1, hr3, hg3⟩
      have hrow3 := hrow.kept hg3 (own_ne hrow (by omega))
      have HB3 := hid (HBL.out.trans (grown_below hg3 HRD.out.lt))
      have HR3 := hid hr3
      have hs3 := hg3.size
      clear hr3 hg3 hrow
      go_wp2_with fail
      refine (HP.out (p + 1) 26 _ HR3.out (by omega) (by omega) (by omega)).mono ?_
      rintro e w4 ⟨x2, rfl, hx2, hr4, hg4⟩
      have hrow4 := hrow3.kept hg4 (own_ne hrow3 (by omega))
      have HB4 := hid (HB3.out.trans (grown_below hg4 HR3.out.lt))
      have HR4 := hid hr4
      have hs4 := hg4.size
      clear hr4 hg4 hrow3
      go_wp2_with fail
      refine (HP.out (p + 1 + 1) 26 _ HR4.out (by omega) (by omega) (by omega)).mono ?_
      rintro e w5 ⟨x3, rfl, hx3, hr5, hg5⟩
      have hrow5 := hrow4.kept hg5 (own_ne hrow4 (by omega))
      have HB5 := hid (HB4.out.trans (grown_below hg5 HR4.out.lt))
      have HR5 := hid hr5
      have hs5 := hg5.size
      clear hr5 hg5 hrow4
      have hii : 0 ≤ (i : Int) * (i : Int) := Int.mul_nonneg (by omega) (by omega)
      have hii2 : (i : Int) * (i : Int) ≤ 10000 := by
        have : i * i ≤ 100 * 100 := Nat.mul_le_mul (by omega) (by omega)
        have h2 : ((i * i : Nat) : Int) ≤ 10000 := by omega
        simpa using h2
      go_wp2_with fail
      generalize (97 + (x1 : Int)) = b1
      generalize (97 + ((x2 : Int) + (i : Int)) % 26) = b2
      generalize (97 + ((x3 : Int) + (i : Int) * (i : Int)) % 26) = b3
      have HR5a := hid (HR5.out.keep ((Below.refl (w.heap.size + 1) w5).alloc HR5.out.lt (.cells #[.int .u8 b1, .int .u8 b2, .int .u8 b3] 5)))
      have HB5a := hid (HB5.out.alloc HB5.out.size (.cells #[.int .u8 b1, .int .u8 b2, .int .u8 b3] 5))
      have hn5 : (w5.alloc (.cells #[.int .u8 b1, .int .u8 b2, .int .u8 b3] 5)).heap[w5.heap.size]? = some (.cells #[.int .u8 b1, .int .u8 b2, .int .u8 b3] 5 (0, 0)) := World.alloc_heap_new w5 _
      have hrow5a := hrow5.alloc (.cells #[.int .u8 b1, .int .u8 b2, .int .u8 b3] 5)
      have hwl := HR5.out.lt
      refine (HP.out (p + 1 + 1 + 1) 3 _ HR5a.out (by omega) (by omega) (by omega)).mono ?_
      rintro e w6 ⟨x4, rfl, hx4, hr6, hg6⟩
      have hrow6 := hrow5a.kept hg6 (own_ne hrow5a (by omega))
      have HB6 := hid (HB5a.out.trans (grown_below hg6 HR5a.out.lt))
      have HR6 := hid hr6
      have hs6 : w5.heap.size + 1 ≤ w6.heap.size := by have := hg6.size; simpa using this
      have hn6 : w6.heap[w5.heap.size]? = some (.cells #[.int .u8 b1, .int .u8 b2, .int .u8 b3] 5 (0, 0)) := (hg6.block w5.heap.size (by simp) (fun e => by simp at e; omega)).trans hn5
      obtain ⟨K, hK⟩ : ∃ K : Nat, K = 1 + (i + x4) % 3 := ⟨_, rfl⟩
      have hK3 : K ≤ 3 := by omega
      have hKe : 1 + ((i : Int) + (x4 : Int)) % 3 = (K : Int) := by omega
      have hcv := conv_three hn6 K hK3
      clear hr6 hg6 hrow5 hrow5a hn5 HR5a HB5a hK
      have hstr : (strOfNums ([b1, b2, b3].take K)).size ≤ 10 := by rw [strOfNums_size]; simp; omega
      generalize strOfNums ([b1, b2, b3].take K) = nt at *
      have HNT := hid hstr
      clear hstr
      go_wp2_with (at_builtin; refine wpList_append_own _ rfl _ _ 24 rfl B 9 i0 (.string ⟨#[]⟩) 1 16 Try.underlying24 hi hz0 hz1 hz2 rfl (by decide) _ _ _ rfl (hrow6.alloc _) ⟨w6.heap.size, 0, none⟩ 1 1 [.string nt] rfl rfl (cell_one_new _ _ _) (by simp [Value.oneCell']) (by unfold maxLen; omega) (by omega) (by simp; omega) ?_; intro v' w7 hown' hgrow _)
      have hb67 : Below B w6 w7 := append_below (Below.refl _ _) hrow6 hgrow (by omega)
      refine ⟨⟨i + 1, p + 4, ts ++ [nt], by omega, by simp [HL.out], by go_num, by omega, tx_app HSZ.out HNT.out, HR6.out.keep (hb67.mono (by omega)), ?_, HB6.out.trans (hb67.mono (by omega)), by have := hb67.size; omega⟩, by simp [intOf]; omega⟩
      rw [List.map_append]; exact hown'
    · obtain rfl : i = 10 + y := by omega
      go_wp2_with fail
      refine (HP.out p 24 _ HRD.out (by omega) (by omega) (by omega)).mono ?_
      rintro e w3 ⟨x, rfl, hx, hr3, hg3⟩
      have hrow3 := hrow.kept hg3 (own_ne hrow (by omega))
      have HB3 := hid (HBL.out.trans (grown_below hg3 HRD.out.lt))
      have HR3 := hid hr3
      have hs3 := hg3.size
      clear hr3 hg3 hrow HBL HRD HO2 HB2 HR2 hil
      by_cases hx0 : x = 0
      · subst hx0
        go_wp2
        go_loopw [5] (fun v wr => ∃ (i q : Nat) (ts : List ByteArray) (ao : Option Addr) (cp : Nat), v = .slice ao i cp ∧ i ≤ 2001 ∧ ts.length = i ∧ q ≤ 300 + i ∧ (∀ j, (tx ts j).size ≤ 10) ∧ Rd wr w.heap.size a nn cap bs q ∧ wr.ownsRow B 9 1 v i (ts.map Value.string) ∧ Below w.heap.size w wr ∧ B < wr.heap.size) (fun v _ => 2001 - vlen v)
        case atStart =>
          obtain ⟨ao, cp, rfl⟩ := row_shape hrow3
          exact ⟨10 + y, p + 1, ts, ao, cp, rfl, by omega, HL.out, by omega, HSZ.out, HR3.out, hrow3, HB3.out, by omega⟩
        case round =>
          clear hrow3 HR3 HB3 HL HSZ
          obtain ⟨i, q, ts, ao, cp, rfl, hi1, hl, hq, hsz, hrd, hrow, hbl, hBw⟩ := hrel
          have HL := hid hl
          have HSZ := hid hsz
          have HRD := hid hrd
          have HBL := hid hbl
          clear hl hsz hrd hbl
          go_wp2_with fail
          refine (HP.out q 2 _ HRD.out (by omega) (by omega) (by omega)).mono ?_
          rintro e w5 ⟨x5, rfl, hx5, hr5, hg5⟩
          have hrow5 := hrow.kept hg5 (own_ne hrow (by omega))
          have HB5 := hid (HBL.out.trans (grown_below hg5 HRD.out.lt))
          have HR5 := hid hr5
          have hs5 := hg5.size
          clear hr5 hg5 hrow HBL HRD
          by_cases hil : i < 2000 + x5
          · have hil' : (i : Int) < 2000 + (x5 : Int) := by omega
            go_wp2_with (at_builtin; refine wpList_append_own _ rfl _ _ 24 rfl B 9 i0 (.string ⟨#[]⟩) 1 16 Try.underlying24 hi hz0 hz1 hz2 rfl (by decide) _ _ _ rfl (hrow5.alloc _) ⟨w5.heap.size, 0, none⟩ 1 1 [.string ⟨#[115, 97, 109, 101]⟩] rfl rfl (cell_one_new _ _ _) (by simp [Value.oneCell']) (by unfold maxLen; omega) (by omega) (by simp; omega) ?_; intro v' w7 hown' hgrow _)
            have hb57 : Below B w5 w7 := append_below (Below.refl _ _) hrow5 hgrow (by omega)
            obtain ⟨ao', cp', rfl⟩ := row_shape hown'
            refine ⟨⟨i + 1, q + 1, ts ++ [⟨#[115, 97, 109, 101]⟩], ao', cp', rfl, by omega, by simp [HL.out], by omega, tx_app HSZ.out (by decide), HR5.out.keep (hb57.mono (by omega)), ?_, HB5.out.trans (hb57.mono (by omega)), by have := hb57.size; omega⟩, by simp [vlen]; omega⟩
            rw [List.map_append]; exact hown'
          · have hil' : ¬ ((i : Int) < 2000 + (x5 : Int)) := by omega
            have HRA : Hid (Rd (w5.alloc (.cells #[.int .i64 1, .int .i64 1, .int .i64 1, .int .i64 2, .int .i64 8] 3)).drew w.heap.size a nn cap bs (q + 1)) := HR5.out.keep (((Below.refl (w.heap.size + 1) w5).alloc HR5.out.lt _).drew)
            have HRB : Hid (Rd w5.drew w.heap.size a nn cap bs (q + 1)) := HR5.out
            have hlt5 := HR5.out.lt
            have HTA := hid fun (w4 : World) (x : Nat) (hx : x < 5) (hg : (w5.alloc (.cells #[.int .i64 1, .int .i64 1, .int .i64 1, .int .i64 2, .int .i64 8] 3)).drew.grownBy w4 (some w.heap.size)) => five_kept (w := w5) hg hlt5 hx
            have HTB := hid fun (w4 : World) (x : Nat) (hx : x < 5) => five_new w4 1 1 1 2 8 hx
            have HFA := hid fun (w4 : World) (hg : (w5.alloc (.cells #[.int .i64 1, .int .i64 1, .int .i64 1, .int .i64 2, .int .i64 8] 3)).drew.grownBy w4 (some w.heap.size)) => tailA hlt hlt5 hrow5 HB5.out hg
            have HFB := hid fun (w4 : World) (hg : w5.drew.grownBy w4 (some w.heap.size)) => tailB (o := (.cells #[.int .i64 1, .int .i64 1, .int .i64 1, .int .i64 2, .int .i64 8] 3)) hlt hlt5 hrow5 HB5.out hg
            clear hrow5
            go_wp2_with fail
            go_region_with (go_at_call 49; first
              | (refine (HP.out (q + 1) 5 _ HRA.out (by omega) (by omega) (by omega)).mono ?_; rintro e w4 ⟨x4, rfl, hx4, hr4, hg4⟩; obtain ⟨z, hz⟩ := HTA.out w4 x4 (by omega) hg4; obtain ⟨hf1, hf2⟩ := HFA.out w4 hg4)
              | (refine (HP.out (q + 1) 5 _ HRB.out (by omega) (by omega) (by omega)).mono ?_; rintro e w4 ⟨x4, rfl, hx4, hr4, hg4⟩; obtain ⟨z, hz⟩ := HTB.out w4 x4 (by omega); obtain ⟨hf1, hf2⟩ := HFB.out w4 hg4))
            all_goals go_wp2
            all_goals go_ret2
            all_goals exact ⟨_, _, ts, rfl, by rw [HL.out]; exact hf1, by rw [HL.out]; omega, HSZ.out, hf2⟩
      · have hx0' : ((x : Int) == 0) = false := by simp; omega
        by_cases hx1 : x = 1
        · subst hx1
          have HRA : Hid (Rd (w3.alloc (.cells #[.int .i64 0, .int .i64 9] 3)).drew w.heap.size a nn cap bs (p + 1)) := HR3.out.keep (((Below.refl (w.heap.size + 1) w3).alloc HR3.out.lt _).drew)
          have HRB : Hid (Rd w3.drew w.heap.size a nn cap bs (p + 1)) := HR3.out
          have hlt3 := HR3.out.lt
          have HTA := hid fun (w4 : World) (x : Nat) (hx : x < 2) (hg : (w3.alloc (.cells #[.int .i64 0, .int .i64 9] 3)).drew.grownBy w4 (some w.heap.size)) => two_kept (w := w3) hg hlt3 hx
          have HTB := hid fun (w4 : World) (x : Nat) (hx : x < 2) => two_new w4 0 9 hx
          have HFA := hid fun (w4 : World) (hg : (w3.alloc (.cells #[.int .i64 0, .int .i64 9] 3)).drew.grownBy w4 (some w.heap.size)) => tailA hlt hlt3 hrow3 HB3.out hg
          have HFB := hid fun (w4 : World) (hg : w3.drew.grownBy w4 (some w.heap.size)) => tailB (o := (.cells #[.int .i64 0, .int .i64 9] 3)) hlt hlt3 hrow3 HB3.out hg
          clear hrow3
          go_wp2_with fail
          go_region_with (go_at_call 49; first
            | (refine (HP.out (p + 1) 2 _ HRA.out (by omega) (by omega) (by omega)).mono ?_; rintro e w4 ⟨x4, rfl, hx4, hr4, hg4⟩; obtain ⟨z, hz⟩ := HTA.out w4 x4 (by omega) hg4; obtain ⟨hf1, hf2⟩ := HFA.out w4 hg4)
            | (refine (HP.out (p + 1) 2 _ HRB.out (by omega) (by omega) (by omega)).mono ?_; rintro e w4 ⟨x4, rfl, hx4, hr4, hg4⟩; obtain ⟨z, hz⟩ := HTB.out w4 x4 (by omega); obtain ⟨hf1, hf2⟩ := HFB.out w4 hg4))
          all_goals go_wp2
          all_goals go_ret2
          all_goals exact ⟨_, _, ts, rfl, by rw [HL.out]; exact hf1, by rw [HL.out]; omega, HSZ.out, hf2⟩
        · have hx1' : ((x : Int) == 1) = false := by simp; omega
          have HRA : Hid (Rd (w3.alloc (.cells #[.int .i64 1, .int .i64 1, .int .i64 1, .int .i64 2, .int .i64 8] 3)).drew w.heap.size a nn cap bs (p + 1)) := HR3.out.keep (((Below.refl (w.heap.size + 1) w3).alloc HR3.out.lt _).drew)
          have HRB : Hid (Rd w3.drew w.heap.size a nn cap bs (p + 1)) := HR3.out
          have hlt3 := HR3.out.lt
          have HTA := hid fun (w4 : World) (x : Nat) (hx : x < 5) (hg : (w3.alloc (.cells #[.int .i64 1, .int .i64 1, .int .i64 1, .int .i64 2, .int .i64 8] 3)).drew.grownBy w4 (some w.heap.size)) => five_kept (w := w3) hg hlt3 hx
          have HTB := hid fun (w4 : World) (x : Nat) (hx : x < 5) => five_new w4 1 1 1 2 8 hx
          have HFA := hid fun (w4 : World) (hg : (w3.alloc (.cells #[.int .i64 1, .int .i64 1, .int .i64 1, .int .i64 2, .int .i64 8] 3)).drew.grownBy w4 (some w.heap.size)) => tailA hlt hlt3 hrow3 HB3.out hg
          have HFB := hid fun (w4 : World) (hg : w3.drew.grownBy w4 (some w.heap.size)) => tailB (o := (.cells #[.int .i64 1, .int .i64 1, .int .i64 1, .int .i64 2, .int .i64 8] 3)) hlt hlt3 hrow3 HB3.out hg
          clear hrow3
          go_wp2_with fail
          go_region_with (go_at_call 49; first
            | (refine (HP.out (p + 1) 5 _ HRA.out (by omega) (by omega) (by omega)).mono ?_; rintro e w4 ⟨x4, rfl, hx4, hr4, hg4⟩; obtain ⟨z, hz⟩ := HTA.out w4 x4 (by omega) hg4; obtain ⟨hf1, hf2⟩ := HFA.out w4 hg4)
            | (refine (HP.out (p + 1) 5 _ HRB.out (by omega) (by omega) (by omega)).mono ?_; rintro e w4 ⟨x4, rfl, hx4, hr4, hg4⟩; obtain ⟨z, hz⟩ := HTB.out w4 x4 (by omega); obtain ⟨hf1, hf2⟩ := HFB.out w4 hg4))
          all_goals go_wp2
          all_goals go_ret2
          all_goals exact ⟨_, _, ts, rfl, by rw [HL.out]; exact hf1, by rw [HL.out]; omega, HSZ.out, hf2⟩
end Go.Proofs.Ytohnffbcgancfaa
