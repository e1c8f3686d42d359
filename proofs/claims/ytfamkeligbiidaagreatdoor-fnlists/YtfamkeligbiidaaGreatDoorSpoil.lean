/- l3Spoil spoils a list. -/
import Derived.Test.YtfamkeligbiidaaGreatDoorSpoilState
import Derived.Deep.RegionWith
namespace Go.Proofs.YtfamkeligbiidaaGreatDoor
open Go.RowKit
set_option maxRecDepth 100000 in
set_option maxHeartbeats 40000000 in
theorem l3Spoil_any (rb : Nat) (a : Option Addr) (nn cap : Nat) (bs : List Int) (p : Nat) (n : Int) (v : Value) (ss : List ByteArray) (b2 : Nat) (w : World) (h : Rd w rb a nn cap bs p) (hp : p ≤ 800000) (hv : w.ownsRow b2 9 1 v ss.length (ss.map Value.string)) (hl : ss.length ≤ 400) (hn : 0 ≤ n ∧ n ≤ 100000) (hz : ∀ s ∈ ss, s.size ≤ 10000) :
    Calls Tryz.prog 44 #[.pointer (some ⟨rb, 0, none⟩), .agg #[.int .i64 n, v]] w fun e w' => ∃ (n' : Int) (v' : Value) (ss' : List ByteArray), e = .returned (.agg #[.int .i64 n', v']) ∧ Reads w' v' ss' ∧ ss'.length ≤ 1000 ∧ (∀ s ∈ ss', s.size ≤ 10000) ∧ w.grownBy w' (some rb) := by
  have HP := hid fun (q : Nat) (n : Int) (W : World) (hr : Rd W rb a nn cap bs q) (h1 : 1 ≤ n) (h2 : n ≤ 100000) (hq : q ≤ 1000000) => pick_any rb a nn cap bs q n W hr h1 h2 hq
  obtain ⟨i0, hi, hz0, hz1, hz2⟩ := info_parts Tryz.info9
  have hlt := h.lt
  have b3 : LBox ((w.alloc (.cells #[.int .i64 n, v] 27)).alloc (.cells #[.int .i64 0, .slice none 0 0] 27)) w.heap.size n v := LBox.alloc (World.alloc_heap_new w _) _
  have b4 : LBox ((w.alloc (.cells #[.int .i64 n, v] 27)).alloc (.cells #[.int .i64 0, .slice none 0 0] 27)) (w.heap.size + 1) 0 (.slice none 0 0) := by
    have := World.alloc_heap_new (w.alloc (.cells #[.int .i64 n, v] 27)) (.cells #[.int .i64 0, .slice none 0 0] 27)
    rwa [World.size_alloc] at this
  have hrB : Rd ((w.alloc (.cells #[.int .i64 n, v] 27)).alloc (.cells #[.int .i64 0, .slice none 0 0] 27)) rb a nn cap bs p := h.keep (((Below.refl (rb + 1) w).alloc hlt _).alloc (by rw [World.size_alloc]; omega) _)
  have hvB := (hv.alloc (.cells #[.int .i64 n, v] 27)).alloc (.cells #[.int .i64 0, .slice none 0 0] 27)
  have hgB : w.grownBy ((w.alloc (.cells #[.int .i64 n, v] 27)).alloc (.cells #[.int .i64 0, .slice none 0 0] 27)) (some rb) := grown_alloc (World.grownBy_alloc w _ _) _
  have hsB : ((w.alloc (.cells #[.int .i64 n, v] 27)).alloc (.cells #[.int .i64 0, .slice none 0 0] 27)).heap.size = w.heap.size + 2 := by rw [World.size_alloc, World.size_alloc]
  have HZ := hid hz
  have HONE := hid (str_one ss)
  obtain ⟨av, cv, rfl, _⟩ := row_form hv
  clear h hv hz
  go_enter Tryz.func44, Tryz.ntmps44
  go_wp2_with fail
  generalize (w.alloc (.cells #[.int .i64 n, .slice av ss.length cv] 27)).alloc (.cells #[.int .i64 0, .slice none 0 0] 27) = wB at *
  have c0 := b3.c0
  have c1 := b3.c1
  have HR := hid hrB
  have HV := hid hvB
  have HG := hid hgB
  have H3 := hid b3
  have H4 := hid b4
  have hsB1 : w.heap.size + 2 ≤ wB.heap.size := by omega
  have hsB2 : wB.heap.size ≤ w.heap.size + 2 := by omega
  clear hrB hvB hgB b4 hsB
  refine wp_region_held (S := fun w' => LBox w' w.heap.size n (.slice av ss.length cv)) (by kernel_rfl) ?_
  change wpAnyH _ _ _ _ _ _ _ _ (World.drew _)
  have hS0 : LBox wB.drew w.heap.size n (.slice av ss.length cv) := b3
  refine wpAnyH_take (i := 0) (v := .pointer (some ⟨w.heap.size, 0, none⟩)) rfl (by kernel_rfl) (by kernel_rfl) (by kernel_rfl) (fun _ _ _ h => h) (.inl ⟨rfl, fun w' hS => by go_simp⟩) hS0 ?_
  refine wpAnyH_take (i := 1) (v := .int .i64 n) rfl (by kernel_rfl) (by kernel_rfl) (by kernel_rfl) (fun _ _ _ h => h) (.inl ⟨rfl, fun w' hS => by have := hS.c0; go_simp⟩) hS0 ?_
  refine wpAnyH_take (i := 3) (v := .pointer (some ⟨w.heap.size, 1, none⟩)) rfl (by kernel_rfl) (by kernel_rfl) (by kernel_rfl) (fun _ _ _ h => h) (.inl ⟨rfl, fun w' hS => by go_simp⟩) hS0 ?_
  refine wpAnyH_take (i := 4) (v := .slice av ss.length cv) rfl (by kernel_rfl) (by kernel_rfl) (by kernel_rfl) (fun _ _ _ h => h) (.inl ⟨rfl, fun w' hS => by have := hS.c1; go_simp⟩) hS0 ?_
  have hE : (wB.drew.alloc (.cells #[] 9)).ownsRow (w.heap.size + 2) 9 1 (.slice (some ⟨wB.heap.size, 0, none⟩) 0 0) 0 [] := World.ownsRow_made wB.drew #[] 0 (by show _ ≤ wB.heap.size; omega) (by simp [maxLen]) rfl
  have hSE : LBox (wB.drew.alloc (.cells #[] 9)) w.heap.size n (.slice av ss.length cv) := b3.alloc _
  have hVE : (wB.drew.alloc (.cells #[] 9)).ownsRow b2 9 1 (.slice av ss.length cv) ss.length (ss.map Value.string) := HV.out.alloc _
  have HSP : Hid (∀ (W : World) (b5 : Nat) (v5 : Value), Rd W rb a nn cap bs p → LBox W w.heap.size n (.slice av ss.length cv) → LBox W (w.heap.size + 1) 0 (.slice none 0 0) → w.grownBy W (some rb) → w.heap.size + 2 ≤ b5 → LBox W b5 0 (.slice none 0 0) → W.ownsRow (w.heap.size + 2) 9 1 v5 ss.length (ss.map Value.string) → Spo w ((W.setCell ⟨b5, 0, none⟩ (.int .i64 n)).setCell ⟨b5, 1, none⟩ v5) rb a nn cap bs p b5 n n v5 (.slice av ss.length cv) ss) := fun W b5 v5 h1 h2 h3 h4 h5 h6 h7 => by
    have g1 := grownBy_setCellAt W b5 0 (.int .i64 n)
    have g2 := grownBy_setCellAt (W.setCell ⟨b5, 0, none⟩ (.int .i64 n)) b5 1 v5
    have hne := box_rd_ne h1 h6
    have hrn := row_box_ne h6 h7
    refine ⟨?_, (LBox.set0 n h6).set1 v5, (h2.grown g1 (by simp; omega)).grown g2 (by simp; omega), (h3.grown g1 (by simp; omega)).grown g2 (by simp; omega), ?_, ?_, h5, hlt⟩
    · have hrl : rb < b5 := by omega
      exact (h1.grown2 g1 hrl).grown2 g2 hrl
    · exact (h7.kept g1 (.inr hrn)).kept g2 (.inr hrn)
    · exact grownBy_trans (grownBy_trans h4 g1 (fun g e => .inr (by cases e; omega))) g2 (fun g e => .inr (by cases e; omega))
  refine held_two 2 7 (by kernel_rfl) (op_value (v := .slice (some ⟨wB.heap.size, 0, none⟩) 0 0) (w' := wB.drew.alloc (.cells #[] 9)) rfl rfl (by go_simp) ⟨hSE, ?_⟩) (op_value (v := .pointer (some ⟨wB.heap.size, 0, none⟩)) (w' := wB.drew.alloc (.cells #[.int .i64 0, .slice none 0 0] 27)) rfl rfl (by go_simp) ⟨b3.alloc _, ?_⟩)
  · have hg1 : w.grownBy (wB.drew.alloc (.cells #[] 9)) (some rb) := grown_alloc (grown_drew HG.out) _
    have hr1 : Rd (wB.drew.alloc (.cells #[] 9)) rb a nn cap bs p := HR.out.keep (((Below.refl (rb + 1) wB).drew).alloc (by show rb + 1 ≤ wB.heap.size; omega) _)
    have h41 : LBox (wB.drew.alloc (.cells #[] 9)) (w.heap.size + 1) 0 (.slice none 0 0) := H4.out.alloc _
    have hs1 : (wB.drew.alloc (.cells #[] 9)).heap.size = wB.heap.size + 1 := World.size_alloc _ _
    refine held_two 5 7 (by kernel_rfl) (op_wp rfl rfl (wp_append_rows (.tmp 9) (.tmp 11) rfl (w.heap.size + 2) _ 0 [] (by go_simp) hE b2 (.slice av ss.length cv) ss.length _ (by go_simp) hVE HONE.out (by omega) (by omega) ?_)) (op_value (v := .pointer (some ⟨wB.heap.size + 1, 0, none⟩)) (w' := (wB.drew.alloc (.cells #[] 9)).alloc (.cells #[.int .i64 0, .slice none 0 0] 27)) rfl rfl (by go_simp) ⟨hSE.alloc _, ?_⟩)
    · intro v5 w5 hown5 hgr5
      obtain ⟨a5, c5, rfl, _⟩ := row_form hown5
      rw [Nat.zero_add, List.nil_append] at hown5
      have hgr : (wB.drew.alloc (.cells #[] 9)).grownBy w5 (some wB.heap.size) := hgr5
      have hS5 := hSE.grown hgr (by simp; omega)
      have h45 := h41.grown hgr (by simp; omega)
      have hr5 := hr1.grown2 hgr (by omega)
      have hg5 : w.grownBy w5 (some rb) := grownBy_trans hg1 hgr (fun g e => .inr (by cases e; omega))
      have hs5 := hgr.size
      refine ⟨hS5, wpAnyH_take (i := 6) (v := .agg #[.int .i64 n, .slice a5 (0 + ss.length) c5]) rfl (by kernel_rfl) (by kernel_rfl) (by kernel_rfl) (fun _ _ _ h => h) (.inl ⟨rfl, fun w' hS => by go_simp⟩) hS5 ?_⟩
      have HSPO := hid (HSP.out (w5.alloc (.cells #[.int .i64 0, .slice none 0 0] 27)) w5.heap.size (.slice a5 ss.length c5) (hr5.keep ((Below.refl (rb + 1) w5).alloc (by omega) _)) (hS5.alloc _) (h45.alloc _) (grown_alloc hg5 _) (by omega) (World.alloc_heap_new w5 _) (hown5.alloc _))
      have HB5 : Hid (LBox (w5.alloc (.cells #[.int .i64 0, .slice none 0 0] 27)) w5.heap.size 0 (.slice none 0 0)) := World.alloc_heap_new w5 _
      rw [Nat.zero_add]
      refine held_one 7 (by kernel_rfl) (op_value (v := .pointer (some ⟨w5.heap.size, 0, none⟩)) (w' := (w5.alloc (.cells #[.int .i64 0, .slice none 0 0] 27))) rfl rfl (by go_simp) ⟨hS5.alloc _, ?_⟩)
      have bn : LBox (w5.alloc (.cells #[.int .i64 0, .slice none 0 0] 27)) (w5.heap.size) 0 (.slice none 0 0) := HB5.out
      have e0 := bn.c0
      have e1 := bn.c1
      have ef0 := bn.fz 0
      have bs0 : LBox ((w5.alloc (.cells #[.int .i64 0, .slice none 0 0] 27)).setCell ⟨w5.heap.size, 0, none⟩ (.int .i64 n)) (w5.heap.size) n (.slice none 0 0) := LBox.set0 n bn
      have g1 := bs0.c1
      have gf1 := bs0.fz 1
      have hS8 := HSPO.out.arg
      refine held_one 8 (by kernel_rfl) (op_skip (w' := ((w5.alloc (.cells #[.int .i64 0, .slice none 0 0] 27)).setCell ⟨w5.heap.size, 0, none⟩ (.int .i64 n)).setCell ⟨w5.heap.size, 1, none⟩ (.slice a5 ss.length c5)) rfl rfl (by go_simp) ⟨hS8, wpAnyH_done (by kernel_rfl) ?_ _⟩)
      clear bn e0 e1 ef0 bs0 g1 gf1 hS8 HB5
      generalize hW8 : ((w5.alloc (.cells #[.int .i64 0, .slice none 0 0] 27)).setCell ⟨w5.heap.size, 0, none⟩ (.int .i64 n)).setCell ⟨w5.heap.size, 1, none⟩ (.slice a5 ss.length c5) = W8 at *
      generalize hB8 : w5.heap.size = b5 at *
      clear hW8 hB8
      clear hS5 h45 hr5 hg5 hs5 hgr hown5 hgr5 hg1 hr1 h41 hs1
      have hv5l : True := trivial
      clear hE hSE hVE HSP hS0 c0 c1 HR HV HG H3 H4
      go_simp
      go_wp2_with fail
      refine (HP.out p 5 _ HSPO.out.rd (by omega) (by omega) (by omega)).mono ?_
      rintro e w6 ⟨x, rfl, hx, hr6, hg6⟩
      have SP6 := hid (HSPO.out.step hr6 hg6)
      clear hr6 hg6 HSPO
      have hx5 : x = 0 ∨ x = 1 ∨ x = 2 ∨ x = 3 ∨ x = 4 := by omega
      rcases hx5 with rfl | rfl | rfl | rfl | rfl
      · have hlt6 := SP6.out.rd.lt
        have hn1 : IntKind.i64.wrap (n + 1) = n + 1 := by rw [IntKind.wrap_i64]; omega
        have k0 := SP6.out.arg.c0
        have HRA := hid (SP6.out.alloc (.cells #[.int .i64 (-1), .int .i64 0, .int .i64 3000, .int .i64 3001, .int .i64 (n + 1)] 3)).drew
        have HRB := hid SP6.out.drew
        have HTA := hid fun (w4 : World) (x : Nat) (hx : x < 5) (hg : (w6.alloc (.cells #[.int .i64 (-1), .int .i64 0, .int .i64 3000, .int .i64 3001, .int .i64 (n + 1)] 3)).drew.grownBy w4 (some rb)) => five_kept2 (w := w6) hg hlt6 hx
        have HTB := hid fun (w4 : World) (x : Nat) (hx : x < 5) => five_new2 w4 (-1) 0 3000 3001 (n + 1) hx
        go_wp2_with fail
        go_region_with (go_at_call 19; first
          | (refine (HP.out (p + 1) 5 _ HRA.out.rd (by omega) (by omega) (by omega)).mono ?_; rintro e w7 ⟨x4, rfl, hx4, hr7, hg7⟩; obtain ⟨z, hz⟩ := HTA.out w7 x4 (by omega) hg7; have SP7 := hid (HRA.out.step hr7 hg7); have q0 := SP7.out.box.c0; have qf := SP7.out.box.fz 0; have k7 := SP7.out.arg.c0)
          | (refine (HP.out (p + 1) 5 _ HRB.out.rd (by omega) (by omega) (by omega)).mono ?_; rintro e w7 ⟨x4, rfl, hx4, hr7, hg7⟩; obtain ⟨z, hz⟩ := HTB.out w7 x4 (by omega); have SP7 := hid ((HRB.out.step hr7 hg7).alloc (.cells #[.int .i64 (-1), .int .i64 0, .int .i64 3000, .int .i64 3001, .int .i64 (n + 1)] 3)); have q0 := SP7.out.box.c0; have qf := SP7.out.box.fz 0; have k7 := (HRB.out.step hr7 hg7).arg.c0))
        all_goals
          have SPE := hid (SP7.out.size z)
          have z0 := SPE.out.box.c0
          have z1 := SPE.out.box.c1
          have zr0 := SPE.out.res.c0
          have zrf := SPE.out.res.fz 0
          have y8 := LBox.set0 z SPE.out.res
          have t1 := y8.c1
          have tf1 := y8.fz 1
          have y9 := y8.set1 (.slice a5 ss.length c5)
          have HF := hid (SPE.out.fin z (.slice a5 ss.length c5))
          clear y8
          go_wp2
          exact bodyPost_ret (v := .agg #[.int .i64 z, (.slice a5 ss.length c5)]) (by simp [results, Tryz.results44, go_sem, y9.c0, y9.c1]) rfl ⟨z, _, ss, rfl, Reads.of_row HF.out.1, by omega, HZ.out, HF.out.2⟩
      · have hlt6 := SP6.out.rd.lt
        have q1 := SP6.out.box.c1
        have HRB := hid SP6.out.drew
        go_wp2_with fail
        refine wp_region_held (S := fun _ => True) (by kernel_rfl) ?_
        change wpAnyH _ _ _ _ _ _ _ _ (World.drew _)
        refine wpAnyH_take (i := 0) (v := .pointer (some ⟨b5, 1, none⟩)) rfl (by kernel_rfl) (by kernel_rfl) (by kernel_rfl) (fun _ _ _ h => h) (.inl ⟨rfl, fun w' _ => by go_simp⟩) trivial ?_
        refine wpAnyH_take (i := 3) (v := .pointer (some ⟨rb, 0, none⟩)) rfl (by kernel_rfl) (by kernel_rfl) (by kernel_rfl) (fun _ _ _ h => h) (.inl ⟨rfl, fun w' _ => by go_simp⟩) trivial ?_
        have hec := enters_of Tryz.func19 (by kernel_rfl) rfl
        have v1 := fun o => (SP6.out.box.alloc o).c1
        refine held_three 1 2 4 (by kernel_rfl) (op_value (v := .slice a5 ss.length c5) (w' := w6.drew) rfl rfl (by go_simp) ⟨trivial, ?_⟩) (op_value (v := .slice (some ⟨w6.heap.size, 0, none⟩) 3 3) (w' := w6.drew.alloc (.cells #[.string ⟨#[]⟩, .string ⟨#[120]⟩, .string ⟨#[49, 50, 51, 52, 53, 54, 55, 56]⟩] 9)) rfl rfl (by go_simp) ⟨trivial, ?_⟩) (op_calls (f := 19) (args := #[.pointer (some ⟨rb, 0, none⟩), .int .i64 3]) rfl rfl (by go_simp) (HP.out (p + 1) 3 _ HRB.out.rd (by omega) (by omega) (by omega)) ?_)
        · refine held_two 2 4 (by kernel_rfl) (op_value (v := .slice (some ⟨w6.heap.size, 0, none⟩) 3 3) (w' := w6.drew.alloc (.cells #[.string ⟨#[]⟩, .string ⟨#[120]⟩, .string ⟨#[49, 50, 51, 52, 53, 54, 55, 56]⟩] 9)) rfl rfl (by go_simp) ⟨trivial, ?_⟩) (op_calls (f := 19) (args := #[.pointer (some ⟨rb, 0, none⟩), .int .i64 3]) rfl rfl (by go_simp) (HP.out (p + 1) 3 _ HRB.out.rd (by omega) (by omega) (by omega)) ?_)
          · have SPn0 := hid (HRB.out.alloc (.cells #[.string ⟨#[]⟩, .string ⟨#[120]⟩, .string ⟨#[49, 50, 51, 52, 53, 54, 55, 56]⟩] 9))
            have uSPn0 := SPn0.out.box.c1
            refine held_one 4 (by kernel_rfl) (op_calls (f := 19) (args := #[.pointer (some ⟨rb, 0, none⟩), .int .i64 3]) rfl rfl (by go_simp) (HP.out (p + 1) 3 _ SPn0.out.rd (by omega) (by omega) (by omega)) ?_)
            rintro e w7 ⟨x4, rfl, hx4, hr7, hg7⟩
            have hx4' : (x4 : Int) < 3 := by omega
            have SPn1 := hid (SPn0.out.step hr7 hg7)
            obtain ⟨z, hzs, hzc⟩ := three_kept (x := x4) hg7 hlt6 (by omega)
            have HZ3 : Hid (∀ s ∈ ss ++ [z], s.size ≤ 10000) := sizes_app HZ.out (by omega)
            have hs71 := hg7.size
            clear hr7 hg7
            refine ⟨_, rfl, trivial, ?_⟩
            refine wpAnyH_take (i := 5) (v := .pointer (some ⟨w6.heap.size, x4, none⟩)) rfl (by kernel_rfl) (by kernel_rfl) (by kernel_rfl) (fun _ _ _ h => h) (.inl ⟨rfl, fun w' _ => by go_simp⟩) trivial ?_
            refine held_one 6 (by kernel_rfl) (op_value (v := .string z) (w' := w7) rfl rfl (by go_simp) ⟨trivial, ?_⟩)
            refine held_one 7 (by kernel_rfl) (op_value (v := .slice (some ⟨w7.heap.size, 0, none⟩) 1 1) (w' := w7.alloc (.cells #[.string z] 9)) rfl rfl (by go_simp) ⟨trivial, ?_⟩)
            have SPn2 := hid (SPn1.out.alloc (.cells #[.string z] 9))
            refine held_one 8 (by kernel_rfl) (op_wp rfl rfl (wp_append_lies _ (.tmp 41) (.tmp 47) 25 rfl (w.heap.size + 2) 9 i0 (.string ⟨#[]⟩) 1 16 Tryz.underlying25 hi hz0 hz1 hz2 rfl (by decide) (.slice a5 ss.length c5) ss.length _ (by go_simp) SPn2.out.row ⟨w7.heap.size, 0, none⟩ 1 1 [.string z] (by go_simp) rfl (one_new w7 z w7.heap.size (by simp)) (by simp [Value.oneCell']) (by decide) (by unfold maxLen; omega) (by omega) SPn2.out.room _ rfl ?_))
            intro g' cap' w8 hown8 hgrow8 _ _
            obtain ⟨bx8, sp8⟩ := SPn2.out.append (ss' := ss ++ [z]) hgrow8 (by simpa using hown8)
            have d1 := bx8.c1
            have df1 := bx8.fz 1
            have SPE := hid sp8
            clear bx8 sp8 hown8 hgrow8
            refine ⟨trivial, held_one 9 (by kernel_rfl) (op_value (v := .pointer (some ⟨b5, 1, none⟩)) (w' := w8) rfl rfl (by go_simp) ⟨trivial, held_one 10 (by kernel_rfl) (op_skip (w' := w8.setCell ⟨b5, 1, none⟩ (.slice (some ⟨g', 0, none⟩) (ss.length + 1) cap')) rfl rfl (by go_simp) ⟨trivial, wpAnyH_done (by kernel_rfl) ?_ _⟩)⟩)⟩
            have z0 := SPE.out.box.c0
            have z1 := SPE.out.box.c1
            have zr0 := SPE.out.res.c0
            have zrf := SPE.out.res.fz 0
            have y8 := LBox.set0 n SPE.out.res
            have t1 := y8.c1
            have tf1 := y8.fz 1
            have y9 := y8.set1 (.slice (some ⟨g', 0, none⟩) (ss.length + 1) cap')
            have HF := hid (SPE.out.fin n (.slice (some ⟨g', 0, none⟩) (ss.length + 1) cap'))
            clear y8
            go_simp
            go_wp2
            exact bodyPost_ret (v := .agg #[.int .i64 n, .slice (some ⟨g', 0, none⟩) (ss.length + 1) cap']) (by simp [results, Tryz.results44, go_sem, y9.c0, y9.c1]) rfl ⟨n, _, ss ++ [z], rfl, Reads.of_row HF.out.1, by simp; omega, HZ3.out, HF.out.2⟩
          · rintro e w7 ⟨x4, rfl, hx4, hr7, hg7⟩
            have hx4' : (x4 : Int) < 3 := by omega
            have SPn0 := hid (HRB.out.step hr7 hg7)
            have hs70 := hg7.size
            clear hr7 hg7
            refine ⟨_, rfl, trivial, ?_⟩
            refine held_one 2 (by kernel_rfl) (op_value (v := .slice (some ⟨w7.heap.size, 0, none⟩) 3 3) (w' := w7.alloc (.cells #[.string ⟨#[]⟩, .string ⟨#[120]⟩, .string ⟨#[49, 50, 51, 52, 53, 54, 55, 56]⟩] 9)) rfl rfl (by go_simp) ⟨trivial, ?_⟩)
            have SPn1 := hid (SPn0.out.alloc (.cells #[.string ⟨#[]⟩, .string ⟨#[120]⟩, .string ⟨#[49, 50, 51, 52, 53, 54, 55, 56]⟩] 9))
            have uSPn1 := SPn1.out.box.c1
            obtain ⟨z, hzs, hzc⟩ := three_new w7 (x := x4) (by omega)
            have HZ3 : Hid (∀ s ∈ ss ++ [z], s.size ≤ 10000) := sizes_app HZ.out (by omega)
            refine wpAnyH_take (i := 5) (v := .pointer (some ⟨w7.heap.size, x4, none⟩)) rfl (by kernel_rfl) (by kernel_rfl) (by kernel_rfl) (fun _ _ _ h => h) (.inl ⟨rfl, fun w' _ => by go_simp⟩) trivial ?_
            refine held_one 6 (by kernel_rfl) (op_value (v := .string z) (w' := (w7.alloc (.cells #[.string ⟨#[]⟩, .string ⟨#[120]⟩, .string ⟨#[49, 50, 51, 52, 53, 54, 55, 56]⟩] 9))) rfl rfl (by go_simp) ⟨trivial, ?_⟩)
            refine held_one 7 (by kernel_rfl) (op_value (v := .slice (some ⟨w7.heap.size + 1, 0, none⟩) 1 1) (w' := (w7.alloc (.cells #[.string ⟨#[]⟩, .string ⟨#[120]⟩, .string ⟨#[49, 50, 51, 52, 53, 54, 55, 56]⟩] 9)).alloc (.cells #[.string z] 9)) rfl rfl (by go_simp) ⟨trivial, ?_⟩)
            have SPn2 := hid (SPn1.out.alloc (.cells #[.string z] 9))
            refine held_one 8 (by kernel_rfl) (op_wp rfl rfl (wp_append_lies _ (.tmp 41) (.tmp 47) 25 rfl (w.heap.size + 2) 9 i0 (.string ⟨#[]⟩) 1 16 Tryz.underlying25 hi hz0 hz1 hz2 rfl (by decide) (.slice a5 ss.length c5) ss.length _ (by go_simp) SPn2.out.row ⟨w7.heap.size + 1, 0, none⟩ 1 1 [.string z] (by go_simp) rfl (one_new (w7.alloc (.cells #[.string ⟨#[]⟩, .string ⟨#[120]⟩, .string ⟨#[49, 50, 51, 52, 53, 54, 55, 56]⟩] 9)) z (w7.heap.size + 1) (by simp)) (by simp [Value.oneCell']) (by decide) (by unfold maxLen; omega) (by omega) SPn2.out.room _ rfl ?_))
            intro g' cap' w8 hown8 hgrow8 _ _
            obtain ⟨bx8, sp8⟩ := SPn2.out.append (ss' := ss ++ [z]) hgrow8 (by simpa using hown8)
            have d1 := bx8.c1
            have df1 := bx8.fz 1
            have SPE := hid sp8
            clear bx8 sp8 hown8 hgrow8
            refine ⟨trivial, held_one 9 (by kernel_rfl) (op_value (v := .pointer (some ⟨b5, 1, none⟩)) (w' := w8) rfl rfl (by go_simp) ⟨trivial, held_one 10 (by kernel_rfl) (op_skip (w' := w8.setCell ⟨b5, 1, none⟩ (.slice (some ⟨g', 0, none⟩) (ss.length + 1) cap')) rfl rfl (by go_simp) ⟨trivial, wpAnyH_done (by kernel_rfl) ?_ _⟩)⟩)⟩
            have z0 := SPE.out.box.c0
            have z1 := SPE.out.box.c1
            have zr0 := SPE.out.res.c0
            have zrf := SPE.out.res.fz 0
            have y8 := LBox.set0 n SPE.out.res
            have t1 := y8.c1
            have tf1 := y8.fz 1
            have y9 := y8.set1 (.slice (some ⟨g', 0, none⟩) (ss.length + 1) cap')
            have HF := hid (SPE.out.fin n (.slice (some ⟨g', 0, none⟩) (ss.length + 1) cap'))
            clear y8
            go_simp
            go_wp2
            exact bodyPost_ret (v := .agg #[.int .i64 n, .slice (some ⟨g', 0, none⟩) (ss.length + 1) cap']) (by simp [results, Tryz.results44, go_sem, y9.c0, y9.c1]) rfl ⟨n, _, ss ++ [z], rfl, Reads.of_row HF.out.1, by simp; omega, HZ3.out, HF.out.2⟩
        · have SPn0 := hid (HRB.out.alloc (.cells #[.string ⟨#[]⟩, .string ⟨#[120]⟩, .string ⟨#[49, 50, 51, 52, 53, 54, 55, 56]⟩] 9))
          have uSPn0 := SPn0.out.box.c1
          refine held_two 1 4 (by kernel_rfl) (op_value (v := .slice a5 ss.length c5) (w' := (w6.drew.alloc (.cells #[.string ⟨#[]⟩, .string ⟨#[120]⟩, .string ⟨#[49, 50, 51, 52, 53, 54, 55, 56]⟩] 9))) rfl rfl (by go_simp) ⟨trivial, ?_⟩) (op_calls (f := 19) (args := #[.pointer (some ⟨rb, 0, none⟩), .int .i64 3]) rfl rfl (by go_simp) (HP.out (p + 1) 3 _ SPn0.out.rd (by omega) (by omega) (by omega)) ?_)
          · refine held_one 4 (by kernel_rfl) (op_calls (f := 19) (args := #[.pointer (some ⟨rb, 0, none⟩), .int .i64 3]) rfl rfl (by go_simp) (HP.out (p + 1) 3 _ SPn0.out.rd (by omega) (by omega) (by omega)) ?_)
            rintro e w7 ⟨x4, rfl, hx4, hr7, hg7⟩
            have hx4' : (x4 : Int) < 3 := by omega
            have SPn1 := hid (SPn0.out.step hr7 hg7)
            obtain ⟨z, hzs, hzc⟩ := three_kept (x := x4) hg7 hlt6 (by omega)
            have HZ3 : Hid (∀ s ∈ ss ++ [z], s.size ≤ 10000) := sizes_app HZ.out (by omega)
            have hs71 := hg7.size
            clear hr7 hg7
            refine ⟨_, rfl, trivial, ?_⟩
            refine wpAnyH_take (i := 5) (v := .pointer (some ⟨w6.heap.size, x4, none⟩)) rfl (by kernel_rfl) (by kernel_rfl) (by kernel_rfl) (fun _ _ _ h => h) (.inl ⟨rfl, fun w' _ => by go_simp⟩) trivial ?_
            refine held_one 6 (by kernel_rfl) (op_value (v := .string z) (w' := w7) rfl rfl (by go_simp) ⟨trivial, ?_⟩)
            refine held_one 7 (by kernel_rfl) (op_value (v := .slice (some ⟨w7.heap.size, 0, none⟩) 1 1) (w' := w7.alloc (.cells #[.string z] 9)) rfl rfl (by go_simp) ⟨trivial, ?_⟩)
            have SPn2 := hid (SPn1.out.alloc (.cells #[.string z] 9))
            refine held_one 8 (by kernel_rfl) (op_wp rfl rfl (wp_append_lies _ (.tmp 41) (.tmp 47) 25 rfl (w.heap.size + 2) 9 i0 (.string ⟨#[]⟩) 1 16 Tryz.underlying25 hi hz0 hz1 hz2 rfl (by decide) (.slice a5 ss.length c5) ss.length _ (by go_simp) SPn2.out.row ⟨w7.heap.size, 0, none⟩ 1 1 [.string z] (by go_simp) rfl (one_new w7 z w7.heap.size (by simp)) (by simp [Value.oneCell']) (by decide) (by unfold maxLen; omega) (by omega) SPn2.out.room _ rfl ?_))
            intro g' cap' w8 hown8 hgrow8 _ _
            obtain ⟨bx8, sp8⟩ := SPn2.out.append (ss' := ss ++ [z]) hgrow8 (by simpa using hown8)
            have d1 := bx8.c1
            have df1 := bx8.fz 1
            have SPE := hid sp8
            clear bx8 sp8 hown8 hgrow8
            refine ⟨trivial, held_one 9 (by kernel_rfl) (op_value (v := .pointer (some ⟨b5, 1, none⟩)) (w' := w8) rfl rfl (by go_simp) ⟨trivial, held_one 10 (by kernel_rfl) (op_skip (w' := w8.setCell ⟨b5, 1, none⟩ (.slice (some ⟨g', 0, none⟩) (ss.length + 1) cap')) rfl rfl (by go_simp) ⟨trivial, wpAnyH_done (by kernel_rfl) ?_ _⟩)⟩)⟩
            have z0 := SPE.out.box.c0
            have z1 := SPE.out.box.c1
            have zr0 := SPE.out.res.c0
            have zrf := SPE.out.res.fz 0
            have y8 := LBox.set0 n SPE.out.res
            have t1 := y8.c1
            have tf1 := y8.fz 1
            have y9 := y8.set1 (.slice (some ⟨g', 0, none⟩) (ss.length + 1) cap')
            have HF := hid (SPE.out.fin n (.slice (some ⟨g', 0, none⟩) (ss.length + 1) cap'))
            clear y8
            go_simp
            go_wp2
            exact bodyPost_ret (v := .agg #[.int .i64 n, .slice (some ⟨g', 0, none⟩) (ss.length + 1) cap']) (by simp [results, Tryz.results44, go_sem, y9.c0, y9.c1]) rfl ⟨n, _, ss ++ [z], rfl, Reads.of_row HF.out.1, by simp; omega, HZ3.out, HF.out.2⟩
          · rintro e w7 ⟨x4, rfl, hx4, hr7, hg7⟩
            have hx4' : (x4 : Int) < 3 := by omega
            have SPn1 := hid (SPn0.out.step hr7 hg7)
            obtain ⟨z, hzs, hzc⟩ := three_kept (x := x4) hg7 hlt6 (by omega)
            have HZ3 : Hid (∀ s ∈ ss ++ [z], s.size ≤ 10000) := sizes_app HZ.out (by omega)
            have hs71 := hg7.size
            clear hr7 hg7
            refine ⟨_, rfl, trivial, ?_⟩
            have u1 := SPn1.out.box.c1
            refine wpAnyH_take (i := 5) (v := .pointer (some ⟨w6.heap.size, x4, none⟩)) rfl (by kernel_rfl) (by kernel_rfl) (by kernel_rfl) (fun _ _ _ h => h) (.inl ⟨rfl, fun w' _ => by go_simp⟩) trivial ?_
            refine held_two 1 6 (by kernel_rfl) (op_value (v := .slice a5 ss.length c5) (w' := w7) rfl rfl (by go_simp) ⟨trivial, ?_⟩) (op_value (v := .string z) (w' := w7) rfl rfl (by go_simp) ⟨trivial, ?_⟩)
            · refine held_one 6 (by kernel_rfl) (op_value (v := .string z) (w' := w7) rfl rfl (by go_simp) ⟨trivial, ?_⟩)
              refine held_one 7 (by kernel_rfl) (op_value (v := .slice (some ⟨w7.heap.size, 0, none⟩) 1 1) (w' := w7.alloc (.cells #[.string z] 9)) rfl rfl (by go_simp) ⟨trivial, ?_⟩)
              have SPn2 := hid (SPn1.out.alloc (.cells #[.string z] 9))
              refine held_one 8 (by kernel_rfl) (op_wp rfl rfl (wp_append_lies _ (.tmp 41) (.tmp 47) 25 rfl (w.heap.size + 2) 9 i0 (.string ⟨#[]⟩) 1 16 Tryz.underlying25 hi hz0 hz1 hz2 rfl (by decide) (.slice a5 ss.length c5) ss.length _ (by go_simp) SPn2.out.row ⟨w7.heap.size, 0, none⟩ 1 1 [.string z] (by go_simp) rfl (one_new w7 z w7.heap.size (by simp)) (by simp [Value.oneCell']) (by decide) (by unfold maxLen; omega) (by omega) SPn2.out.room _ rfl ?_))
              intro g' cap' w8 hown8 hgrow8 _ _
              obtain ⟨bx8, sp8⟩ := SPn2.out.append (ss' := ss ++ [z]) hgrow8 (by simpa using hown8)
              have d1 := bx8.c1
              have df1 := bx8.fz 1
              have SPE := hid sp8
              clear bx8 sp8 hown8 hgrow8
              refine ⟨trivial, held_one 9 (by kernel_rfl) (op_value (v := .pointer (some ⟨b5, 1, none⟩)) (w' := w8) rfl rfl (by go_simp) ⟨trivial, held_one 10 (by kernel_rfl) (op_skip (w' := w8.setCell ⟨b5, 1, none⟩ (.slice (some ⟨g', 0, none⟩) (ss.length + 1) cap')) rfl rfl (by go_simp) ⟨trivial, wpAnyH_done (by kernel_rfl) ?_ _⟩)⟩)⟩
              have z0 := SPE.out.box.c0
              have z1 := SPE.out.box.c1
              have zr0 := SPE.out.res.c0
              have zrf := SPE.out.res.fz 0
              have y8 := LBox.set0 n SPE.out.res
              have t1 := y8.c1
              have tf1 := y8.fz 1
              have y9 := y8.set1 (.slice (some ⟨g', 0, none⟩) (ss.length + 1) cap')
              have HF := hid (SPE.out.fin n (.slice (some ⟨g', 0, none⟩) (ss.length + 1) cap'))
              clear y8
              go_simp
              go_wp2
              exact bodyPost_ret (v := .agg #[.int .i64 n, .slice (some ⟨g', 0, none⟩) (ss.length + 1) cap']) (by simp [results, Tryz.results44, go_sem, y9.c0, y9.c1]) rfl ⟨n, _, ss ++ [z], rfl, Reads.of_row HF.out.1, by simp; omega, HZ3.out, HF.out.2⟩
            · refine held_two 1 7 (by kernel_rfl) (op_value (v := .slice a5 ss.length c5) (w' := w7) rfl rfl (by go_simp) ⟨trivial, ?_⟩) (op_value (v := .slice (some ⟨w7.heap.size, 0, none⟩) 1 1) (w' := w7.alloc (.cells #[.string z] 9)) rfl rfl (by go_simp) ⟨trivial, ?_⟩)
              · refine held_one 7 (by kernel_rfl) (op_value (v := .slice (some ⟨w7.heap.size, 0, none⟩) 1 1) (w' := w7.alloc (.cells #[.string z] 9)) rfl rfl (by go_simp) ⟨trivial, ?_⟩)
                have SPn2 := hid (SPn1.out.alloc (.cells #[.string z] 9))
                refine held_one 8 (by kernel_rfl) (op_wp rfl rfl (wp_append_lies _ (.tmp 41) (.tmp 47) 25 rfl (w.heap.size + 2) 9 i0 (.string ⟨#[]⟩) 1 16 Tryz.underlying25 hi hz0 hz1 hz2 rfl (by decide) (.slice a5 ss.length c5) ss.length _ (by go_simp) SPn2.out.row ⟨w7.heap.size, 0, none⟩ 1 1 [.string z] (by go_simp) rfl (one_new w7 z w7.heap.size (by simp)) (by simp [Value.oneCell']) (by decide) (by unfold maxLen; omega) (by omega) SPn2.out.room _ rfl ?_))
                intro g' cap' w8 hown8 hgrow8 _ _
                obtain ⟨bx8, sp8⟩ := SPn2.out.append (ss' := ss ++ [z]) hgrow8 (by simpa using hown8)
                have d1 := bx8.c1
                have df1 := bx8.fz 1
                have SPE := hid sp8
                clear bx8 sp8 hown8 hgrow8
                refine ⟨trivial, held_one 9 (by kernel_rfl) (op_value (v := .pointer (some ⟨b5, 1, none⟩)) (w' := w8) rfl rfl (by go_simp) ⟨trivial, held_one 10 (by kernel_rfl) (op_skip (w' := w8.setCell ⟨b5, 1, none⟩ (.slice (some ⟨g', 0, none⟩) (ss.length + 1) cap')) rfl rfl (by go_simp) ⟨trivial, wpAnyH_done (by kernel_rfl) ?_ _⟩)⟩)⟩
                have z0 := SPE.out.box.c0
                have z1 := SPE.out.box.c1
                have zr0 := SPE.out.res.c0
                have zrf := SPE.out.res.fz 0
                have y8 := LBox.set0 n SPE.out.res
                have t1 := y8.c1
                have tf1 := y8.fz 1
                have y9 := y8.set1 (.slice (some ⟨g', 0, none⟩) (ss.length + 1) cap')
                have HF := hid (SPE.out.fin n (.slice (some ⟨g', 0, none⟩) (ss.length + 1) cap'))
                clear y8
                go_simp
                go_wp2
                exact bodyPost_ret (v := .agg #[.int .i64 n, .slice (some ⟨g', 0, none⟩) (ss.length + 1) cap']) (by simp [results, Tryz.results44, go_sem, y9.c0, y9.c1]) rfl ⟨n, _, ss ++ [z], rfl, Reads.of_row HF.out.1, by simp; omega, HZ3.out, HF.out.2⟩
              · have SPn2 := hid (SPn1.out.alloc (.cells #[.string z] 9))
                have u2 := SPn2.out.box.c1
                refine held_one 1 (by kernel_rfl) (op_value (v := .slice a5 ss.length c5) (w' := (w7.alloc (.cells #[.string z] 9))) rfl rfl (by go_simp) ⟨trivial, ?_⟩)
                refine held_one 8 (by kernel_rfl) (op_wp rfl rfl (wp_append_lies _ (.tmp 41) (.tmp 47) 25 rfl (w.heap.size + 2) 9 i0 (.string ⟨#[]⟩) 1 16 Tryz.underlying25 hi hz0 hz1 hz2 rfl (by decide) (.slice a5 ss.length c5) ss.length _ (by go_simp) SPn2.out.row ⟨w7.heap.size, 0, none⟩ 1 1 [.string z] (by go_simp) rfl (one_new w7 z w7.heap.size (by simp)) (by simp [Value.oneCell']) (by decide) (by unfold maxLen; omega) (by omega) SPn2.out.room _ rfl ?_))
                intro g' cap' w8 hown8 hgrow8 _ _
                obtain ⟨bx8, sp8⟩ := SPn2.out.append (ss' := ss ++ [z]) hgrow8 (by simpa using hown8)
                have d1 := bx8.c1
                have df1 := bx8.fz 1
                have SPE := hid sp8
                clear bx8 sp8 hown8 hgrow8
                refine ⟨trivial, held_one 9 (by kernel_rfl) (op_value (v := .pointer (some ⟨b5, 1, none⟩)) (w' := w8) rfl rfl (by go_simp) ⟨trivial, held_one 10 (by kernel_rfl) (op_skip (w' := w8.setCell ⟨b5, 1, none⟩ (.slice (some ⟨g', 0, none⟩) (ss.length + 1) cap')) rfl rfl (by go_simp) ⟨trivial, wpAnyH_done (by kernel_rfl) ?_ _⟩)⟩)⟩
                have z0 := SPE.out.box.c0
                have z1 := SPE.out.box.c1
                have zr0 := SPE.out.res.c0
                have zrf := SPE.out.res.fz 0
                have y8 := LBox.set0 n SPE.out.res
                have t1 := y8.c1
                have tf1 := y8.fz 1
                have y9 := y8.set1 (.slice (some ⟨g', 0, none⟩) (ss.length + 1) cap')
                have HF := hid (SPE.out.fin n (.slice (some ⟨g', 0, none⟩) (ss.length + 1) cap'))
                clear y8
                go_simp
                go_wp2
                exact bodyPost_ret (v := .agg #[.int .i64 n, .slice (some ⟨g', 0, none⟩) (ss.length + 1) cap']) (by simp [results, Tryz.results44, go_sem, y9.c0, y9.c1]) rfl ⟨n, _, ss ++ [z], rfl, Reads.of_row HF.out.1, by simp; omega, HZ3.out, HF.out.2⟩
        · rintro e w7 ⟨x4, rfl, hx4, hr7, hg7⟩
          have hx4' : (x4 : Int) < 3 := by omega
          have SPn0 := hid (HRB.out.step hr7 hg7)
          have hs70 := hg7.size
          clear hr7 hg7
          refine ⟨_, rfl, trivial, ?_⟩
          have u0 := SPn0.out.box.c1
          refine held_two 1 2 (by kernel_rfl) (op_value (v := .slice a5 ss.length c5) (w' := w7) rfl rfl (by go_simp) ⟨trivial, ?_⟩) (op_value (v := .slice (some ⟨w7.heap.size, 0, none⟩) 3 3) (w' := w7.alloc (.cells #[.string ⟨#[]⟩, .string ⟨#[120]⟩, .string ⟨#[49, 50, 51, 52, 53, 54, 55, 56]⟩] 9)) rfl rfl (by go_simp) ⟨trivial, ?_⟩)
          · refine held_one 2 (by kernel_rfl) (op_value (v := .slice (some ⟨w7.heap.size, 0, none⟩) 3 3) (w' := w7.alloc (.cells #[.string ⟨#[]⟩, .string ⟨#[120]⟩, .string ⟨#[49, 50, 51, 52, 53, 54, 55, 56]⟩] 9)) rfl rfl (by go_simp) ⟨trivial, ?_⟩)
            have SPn1 := hid (SPn0.out.alloc (.cells #[.string ⟨#[]⟩, .string ⟨#[120]⟩, .string ⟨#[49, 50, 51, 52, 53, 54, 55, 56]⟩] 9))
            have uSPn1 := SPn1.out.box.c1
            obtain ⟨z, hzs, hzc⟩ := three_new w7 (x := x4) (by omega)
            have HZ3 : Hid (∀ s ∈ ss ++ [z], s.size ≤ 10000) := sizes_app HZ.out (by omega)
            refine wpAnyH_take (i := 5) (v := .pointer (some ⟨w7.heap.size, x4, none⟩)) rfl (by kernel_rfl) (by kernel_rfl) (by kernel_rfl) (fun _ _ _ h => h) (.inl ⟨rfl, fun w' _ => by go_simp⟩) trivial ?_
            refine held_one 6 (by kernel_rfl) (op_value (v := .string z) (w' := (w7.alloc (.cells #[.string ⟨#[]⟩, .string ⟨#[120]⟩, .string ⟨#[49, 50, 51, 52, 53, 54, 55, 56]⟩] 9))) rfl rfl (by go_simp) ⟨trivial, ?_⟩)
            refine held_one 7 (by kernel_rfl) (op_value (v := .slice (some ⟨w7.heap.size + 1, 0, none⟩) 1 1) (w' := (w7.alloc (.cells #[.string ⟨#[]⟩, .string ⟨#[120]⟩, .string ⟨#[49, 50, 51, 52, 53, 54, 55, 56]⟩] 9)).alloc (.cells #[.string z] 9)) rfl rfl (by go_simp) ⟨trivial, ?_⟩)
            have SPn2 := hid (SPn1.out.alloc (.cells #[.string z] 9))
            refine held_one 8 (by kernel_rfl) (op_wp rfl rfl (wp_append_lies _ (.tmp 41) (.tmp 47) 25 rfl (w.heap.size + 2) 9 i0 (.string ⟨#[]⟩) 1 16 Tryz.underlying25 hi hz0 hz1 hz2 rfl (by decide) (.slice a5 ss.length c5) ss.length _ (by go_simp) SPn2.out.row ⟨w7.heap.size + 1, 0, none⟩ 1 1 [.string z] (by go_simp) rfl (one_new (w7.alloc (.cells #[.string ⟨#[]⟩, .string ⟨#[120]⟩, .string ⟨#[49, 50, 51, 52, 53, 54, 55, 56]⟩] 9)) z (w7.heap.size + 1) (by simp)) (by simp [Value.oneCell']) (by decide) (by unfold maxLen; omega) (by omega) SPn2.out.room _ rfl ?_))
            intro g' cap' w8 hown8 hgrow8 _ _
            obtain ⟨bx8, sp8⟩ := SPn2.out.append (ss' := ss ++ [z]) hgrow8 (by simpa using hown8)
            have d1 := bx8.c1
            have df1 := bx8.fz 1
            have SPE := hid sp8
            clear bx8 sp8 hown8 hgrow8
            refine ⟨trivial, held_one 9 (by kernel_rfl) (op_value (v := .pointer (some ⟨b5, 1, none⟩)) (w' := w8) rfl rfl (by go_simp) ⟨trivial, held_one 10 (by kernel_rfl) (op_skip (w' := w8.setCell ⟨b5, 1, none⟩ (.slice (some ⟨g', 0, none⟩) (ss.length + 1) cap')) rfl rfl (by go_simp) ⟨trivial, wpAnyH_done (by kernel_rfl) ?_ _⟩)⟩)⟩
            have z0 := SPE.out.box.c0
            have z1 := SPE.out.box.c1
            have zr0 := SPE.out.res.c0
            have zrf := SPE.out.res.fz 0
            have y8 := LBox.set0 n SPE.out.res
            have t1 := y8.c1
            have tf1 := y8.fz 1
            have y9 := y8.set1 (.slice (some ⟨g', 0, none⟩) (ss.length + 1) cap')
            have HF := hid (SPE.out.fin n (.slice (some ⟨g', 0, none⟩) (ss.length + 1) cap'))
            clear y8
            go_simp
            go_wp2
            exact bodyPost_ret (v := .agg #[.int .i64 n, .slice (some ⟨g', 0, none⟩) (ss.length + 1) cap']) (by simp [results, Tryz.results44, go_sem, y9.c0, y9.c1]) rfl ⟨n, _, ss ++ [z], rfl, Reads.of_row HF.out.1, by simp; omega, HZ3.out, HF.out.2⟩
          · have SPn1 := hid (SPn0.out.alloc (.cells #[.string ⟨#[]⟩, .string ⟨#[120]⟩, .string ⟨#[49, 50, 51, 52, 53, 54, 55, 56]⟩] 9))
            have uSPn1 := SPn1.out.box.c1
            obtain ⟨z, hzs, hzc⟩ := three_new w7 (x := x4) (by omega)
            have HZ3 : Hid (∀ s ∈ ss ++ [z], s.size ≤ 10000) := sizes_app HZ.out (by omega)
            refine wpAnyH_take (i := 5) (v := .pointer (some ⟨w7.heap.size, x4, none⟩)) rfl (by kernel_rfl) (by kernel_rfl) (by kernel_rfl) (fun _ _ _ h => h) (.inl ⟨rfl, fun w' _ => by go_simp⟩) trivial ?_
            refine held_two 1 6 (by kernel_rfl) (op_value (v := .slice a5 ss.length c5) (w' := (w7.alloc (.cells #[.string ⟨#[]⟩, .string ⟨#[120]⟩, .string ⟨#[49, 50, 51, 52, 53, 54, 55, 56]⟩] 9))) rfl rfl (by go_simp) ⟨trivial, ?_⟩) (op_value (v := .string z) (w' := (w7.alloc (.cells #[.string ⟨#[]⟩, .string ⟨#[120]⟩, .string ⟨#[49, 50, 51, 52, 53, 54, 55, 56]⟩] 9))) rfl rfl (by go_simp) ⟨trivial, ?_⟩)
            · refine held_one 6 (by kernel_rfl) (op_value (v := .string z) (w' := (w7.alloc (.cells #[.string ⟨#[]⟩, .string ⟨#[120]⟩, .string ⟨#[49, 50, 51, 52, 53, 54, 55, 56]⟩] 9))) rfl rfl (by go_simp) ⟨trivial, ?_⟩)
              refine held_one 7 (by kernel_rfl) (op_value (v := .slice (some ⟨w7.heap.size + 1, 0, none⟩) 1 1) (w' := (w7.alloc (.cells #[.string ⟨#[]⟩, .string ⟨#[120]⟩, .string ⟨#[49, 50, 51, 52, 53, 54, 55, 56]⟩] 9)).alloc (.cells #[.string z] 9)) rfl rfl (by go_simp) ⟨trivial, ?_⟩)
              have SPn2 := hid (SPn1.out.alloc (.cells #[.string z] 9))
              refine held_one 8 (by kernel_rfl) (op_wp rfl rfl (wp_append_lies _ (.tmp 41) (.tmp 47) 25 rfl (w.heap.size + 2) 9 i0 (.string ⟨#[]⟩) 1 16 Tryz.underlying25 hi hz0 hz1 hz2 rfl (by decide) (.slice a5 ss.length c5) ss.length _ (by go_simp) SPn2.out.row ⟨w7.heap.size + 1, 0, none⟩ 1 1 [.string z] (by go_simp) rfl (one_new (w7.alloc (.cells #[.string ⟨#[]⟩, .string ⟨#[120]⟩, .string ⟨#[49, 50, 51, 52, 53, 54, 55, 56]⟩] 9)) z (w7.heap.size + 1) (by simp)) (by simp [Value.oneCell']) (by decide) (by unfold maxLen; omega) (by omega) SPn2.out.room _ rfl ?_))
              intro g' cap' w8 hown8 hgrow8 _ _
              obtain ⟨bx8, sp8⟩ := SPn2.out.append (ss' := ss ++ [z]) hgrow8 (by simpa using hown8)
              have d1 := bx8.c1
              have df1 := bx8.fz 1
              have SPE := hid sp8
              clear bx8 sp8 hown8 hgrow8
              refine ⟨trivial, held_one 9 (by kernel_rfl) (op_value (v := .pointer (some ⟨b5, 1, none⟩)) (w' := w8) rfl rfl (by go_simp) ⟨trivial, held_one 10 (by kernel_rfl) (op_skip (w' := w8.setCell ⟨b5, 1, none⟩ (.slice (some ⟨g', 0, none⟩) (ss.length + 1) cap')) rfl rfl (by go_simp) ⟨trivial, wpAnyH_done (by kernel_rfl) ?_ _⟩)⟩)⟩
              have z0 := SPE.out.box.c0
              have z1 := SPE.out.box.c1
              have zr0 := SPE.out.res.c0
              have zrf := SPE.out.res.fz 0
              have y8 := LBox.set0 n SPE.out.res
              have t1 := y8.c1
              have tf1 := y8.fz 1
              have y9 := y8.set1 (.slice (some ⟨g', 0, none⟩) (ss.length + 1) cap')
              have HF := hid (SPE.out.fin n (.slice (some ⟨g', 0, none⟩) (ss.length + 1) cap'))
              clear y8
              go_simp
              go_wp2
              exact bodyPost_ret (v := .agg #[.int .i64 n, .slice (some ⟨g', 0, none⟩) (ss.length + 1) cap']) (by simp [results, Tryz.results44, go_sem, y9.c0, y9.c1]) rfl ⟨n, _, ss ++ [z], rfl, Reads.of_row HF.out.1, by simp; omega, HZ3.out, HF.out.2⟩
            · refine held_two 1 7 (by kernel_rfl) (op_value (v := .slice a5 ss.length c5) (w' := (w7.alloc (.cells #[.string ⟨#[]⟩, .string ⟨#[120]⟩, .string ⟨#[49, 50, 51, 52, 53, 54, 55, 56]⟩] 9))) rfl rfl (by go_simp) ⟨trivial, ?_⟩) (op_value (v := .slice (some ⟨w7.heap.size + 1, 0, none⟩) 1 1) (w' := (w7.alloc (.cells #[.string ⟨#[]⟩, .string ⟨#[120]⟩, .string ⟨#[49, 50, 51, 52, 53, 54, 55, 56]⟩] 9)).alloc (.cells #[.string z] 9)) rfl rfl (by go_simp) ⟨trivial, ?_⟩)
              · refine held_one 7 (by kernel_rfl) (op_value (v := .slice (some ⟨w7.heap.size + 1, 0, none⟩) 1 1) (w' := (w7.alloc (.cells #[.string ⟨#[]⟩, .string ⟨#[120]⟩, .string ⟨#[49, 50, 51, 52, 53, 54, 55, 56]⟩] 9)).alloc (.cells #[.string z] 9)) rfl rfl (by go_simp) ⟨trivial, ?_⟩)
                have SPn2 := hid (SPn1.out.alloc (.cells #[.string z] 9))
                refine held_one 8 (by kernel_rfl) (op_wp rfl rfl (wp_append_lies _ (.tmp 41) (.tmp 47) 25 rfl (w.heap.size + 2) 9 i0 (.string ⟨#[]⟩) 1 16 Tryz.underlying25 hi hz0 hz1 hz2 rfl (by decide) (.slice a5 ss.length c5) ss.length _ (by go_simp) SPn2.out.row ⟨w7.heap.size + 1, 0, none⟩ 1 1 [.string z] (by go_simp) rfl (one_new (w7.alloc (.cells #[.string ⟨#[]⟩, .string ⟨#[120]⟩, .string ⟨#[49, 50, 51, 52, 53, 54, 55, 56]⟩] 9)) z (w7.heap.size + 1) (by simp)) (by simp [Value.oneCell']) (by decide) (by unfold maxLen; omega) (by omega) SPn2.out.room _ rfl ?_))
                intro g' cap' w8 hown8 hgrow8 _ _
                obtain ⟨bx8, sp8⟩ := SPn2.out.append (ss' := ss ++ [z]) hgrow8 (by simpa using hown8)
                have d1 := bx8.c1
                have df1 := bx8.fz 1
                have SPE := hid sp8
                clear bx8 sp8 hown8 hgrow8
                refine ⟨trivial, held_one 9 (by kernel_rfl) (op_value (v := .pointer (some ⟨b5, 1, none⟩)) (w' := w8) rfl rfl (by go_simp) ⟨trivial, held_one 10 (by kernel_rfl) (op_skip (w' := w8.setCell ⟨b5, 1, none⟩ (.slice (some ⟨g', 0, none⟩) (ss.length + 1) cap')) rfl rfl (by go_simp) ⟨trivial, wpAnyH_done (by kernel_rfl) ?_ _⟩)⟩)⟩
                have z0 := SPE.out.box.c0
                have z1 := SPE.out.box.c1
                have zr0 := SPE.out.res.c0
                have zrf := SPE.out.res.fz 0
                have y8 := LBox.set0 n SPE.out.res
                have t1 := y8.c1
                have tf1 := y8.fz 1
                have y9 := y8.set1 (.slice (some ⟨g', 0, none⟩) (ss.length + 1) cap')
                have HF := hid (SPE.out.fin n (.slice (some ⟨g', 0, none⟩) (ss.length + 1) cap'))
                clear y8
                go_simp
                go_wp2
                exact bodyPost_ret (v := .agg #[.int .i64 n, .slice (some ⟨g', 0, none⟩) (ss.length + 1) cap']) (by simp [results, Tryz.results44, go_sem, y9.c0, y9.c1]) rfl ⟨n, _, ss ++ [z], rfl, Reads.of_row HF.out.1, by simp; omega, HZ3.out, HF.out.2⟩
              · have SPn2 := hid (SPn1.out.alloc (.cells #[.string z] 9))
                have u2 := SPn2.out.box.c1
                refine held_one 1 (by kernel_rfl) (op_value (v := .slice a5 ss.length c5) (w' := ((w7.alloc (.cells #[.string ⟨#[]⟩, .string ⟨#[120]⟩, .string ⟨#[49, 50, 51, 52, 53, 54, 55, 56]⟩] 9)).alloc (.cells #[.string z] 9))) rfl rfl (by go_simp) ⟨trivial, ?_⟩)
                refine held_one 8 (by kernel_rfl) (op_wp rfl rfl (wp_append_lies _ (.tmp 41) (.tmp 47) 25 rfl (w.heap.size + 2) 9 i0 (.string ⟨#[]⟩) 1 16 Tryz.underlying25 hi hz0 hz1 hz2 rfl (by decide) (.slice a5 ss.length c5) ss.length _ (by go_simp) SPn2.out.row ⟨w7.heap.size + 1, 0, none⟩ 1 1 [.string z] (by go_simp) rfl (one_new (w7.alloc (.cells #[.string ⟨#[]⟩, .string ⟨#[120]⟩, .string ⟨#[49, 50, 51, 52, 53, 54, 55, 56]⟩] 9)) z (w7.heap.size + 1) (by simp)) (by simp [Value.oneCell']) (by decide) (by unfold maxLen; omega) (by omega) SPn2.out.room _ rfl ?_))
                intro g' cap' w8 hown8 hgrow8 _ _
                obtain ⟨bx8, sp8⟩ := SPn2.out.append (ss' := ss ++ [z]) hgrow8 (by simpa using hown8)
                have d1 := bx8.c1
                have df1 := bx8.fz 1
                have SPE := hid sp8
                clear bx8 sp8 hown8 hgrow8
                refine ⟨trivial, held_one 9 (by kernel_rfl) (op_value (v := .pointer (some ⟨b5, 1, none⟩)) (w' := w8) rfl rfl (by go_simp) ⟨trivial, held_one 10 (by kernel_rfl) (op_skip (w' := w8.setCell ⟨b5, 1, none⟩ (.slice (some ⟨g', 0, none⟩) (ss.length + 1) cap')) rfl rfl (by go_simp) ⟨trivial, wpAnyH_done (by kernel_rfl) ?_ _⟩)⟩)⟩
                have z0 := SPE.out.box.c0
                have z1 := SPE.out.box.c1
                have zr0 := SPE.out.res.c0
                have zrf := SPE.out.res.fz 0
                have y8 := LBox.set0 n SPE.out.res
                have t1 := y8.c1
                have tf1 := y8.fz 1
                have y9 := y8.set1 (.slice (some ⟨g', 0, none⟩) (ss.length + 1) cap')
                have HF := hid (SPE.out.fin n (.slice (some ⟨g', 0, none⟩) (ss.length + 1) cap'))
                clear y8
                go_simp
                go_wp2
                exact bodyPost_ret (v := .agg #[.int .i64 n, .slice (some ⟨g', 0, none⟩) (ss.length + 1) cap']) (by simp [results, Tryz.results44, go_sem, y9.c0, y9.c1]) rfl ⟨n, _, ss ++ [z], rfl, Reads.of_row HF.out.1, by simp; omega, HZ3.out, HF.out.2⟩
      · have e0 := SP6.out.box.c0
        have e1 := SP6.out.box.c1
        have ef1 := SP6.out.box.fz 1
        have r0 := SP6.out.res.c0
        have rf0 := SP6.out.res.fz 0
        by_cases hl1 : 0 < ss.length
        · have hl1' : (0 : Int) < (ss.length : Int) := by omega
          obtain ⟨_, _, e5, hg5⟩ := row_form SP6.out.row
          simp only [Value.slice.injEq] at e5
          obtain ⟨rfl, _, rfl⟩ := e5
          obtain ⟨g, rfl, hgl⟩ := hg5 (by omega)
          obtain ⟨hcl, hcells⟩ := row_capcells SP6.out.row
          have hcap : (ss.length : Int) ≤ (c5 : Int) := by omega
          clear hg5
          by_cases hc1 : c5 = 1
          · subst hc1
            have SQ := hid (SP6.out.cut (.slice (some ⟨g, 0, none⟩) 0 0))
            have z0 := SQ.out.1.c0
            have z1 := SQ.out.1.c1
            have zr0 := SQ.out.2.1.c0
            have zrf := SQ.out.2.1.fz 0
            have y8 : LBox ((w6.setCell ⟨b5, 1, none⟩ (.slice (some ⟨g, 0, none⟩) 0 0)).setCell ⟨w.heap.size + 1, 0, none⟩ (.int .i64 n)) (w.heap.size + 1) n (.slice none 0 0) := LBox.set0 n SQ.out.2.1
            have t1 := y8.c1
            have tf1 := y8.fz 1
            have y9 := y8.set1 (.slice (some ⟨g, 0, none⟩) 0 0)
            have HF := hid (SQ.out.2.2 n (.slice (some ⟨g, 0, none⟩) 0 0))
            clear y8
            go_wp2
            refine bodyPost_ret (v := .agg #[.int .i64 n, .slice (some ⟨g, 0, none⟩) 0 0]) (by simp [results, Tryz.results44, go_sem, y9.c0, y9.c1]) rfl ⟨n, _, [], rfl, .inl ⟨rfl, some ⟨g, 0, none⟩, 0, rfl⟩, by simp, by simp, HF.out.2⟩
          · have hc1' : ¬ ((c5 : Int) = 1) := by omega
            have hc2 : (1 : Int) < (c5 : Int) := by omega
            have SQ := hid (SP6.out.cut (.slice (some ⟨g, 1, none⟩) (ss.length - 1) (c5 - 1)))
            have z0 := SQ.out.1.c0
            have z1 := SQ.out.1.c1
            have zr0 := SQ.out.2.1.c0
            have zrf := SQ.out.2.1.fz 0
            have y8 : LBox ((w6.setCell ⟨b5, 1, none⟩ (.slice (some ⟨g, 1, none⟩) (ss.length - 1) (c5 - 1))).setCell ⟨w.heap.size + 1, 0, none⟩ (.int .i64 n)) (w.heap.size + 1) n (.slice none 0 0) := LBox.set0 n SQ.out.2.1
            have t1 := y8.c1
            have tf1 := y8.fz 1
            have y9 := y8.set1 (.slice (some ⟨g, 1, none⟩) (ss.length - 1) (c5 - 1))
            have HF := hid (SQ.out.2.2 n (.slice (some ⟨g, 1, none⟩) (ss.length - 1) (c5 - 1)))
            clear y8
            go_wp2
            refine bodyPost_ret (v := .agg #[.int .i64 n, .slice (some ⟨g, 1, none⟩) (ss.length - 1) (c5 - 1)]) (by simp [results, Tryz.results44, go_sem, y9.c0, y9.c1]) rfl ⟨n, _, ss.drop 1, rfl, ?_, by rw [List.length_drop]; omega, fun s hs => HZ.out s (List.mem_of_mem_drop hs), HF.out.2⟩
            obtain ⟨_, hcells2⟩ := row_capcells HF.out.1
            exact reads_drop2 1 (HF.out.1.lt g rfl).2 hcells2
        · have hl1' : ¬ ((0 : Int) < (ss.length : Int)) := by omega
          have y8 : LBox (w6.setCell ⟨w.heap.size + 1, 0, none⟩ (.int .i64 n)) (w.heap.size + 1) n (.slice none 0 0) := LBox.set0 n SP6.out.res
          have s1 := y8.c1
          have sf1 := y8.fz 1
          have y9 := y8.set1 (.slice a5 ss.length c5)
          have HF := hid (SP6.out.fin n (.slice a5 ss.length c5))
          clear y8
          go_wp2
          exact bodyPost_ret (v := .agg #[.int .i64 n, .slice a5 ss.length c5]) (by simp [results, Tryz.results44, go_sem, y9.c0, y9.c1]) rfl ⟨n, _, ss, rfl, Reads.of_row HF.out.1, by omega, HZ.out, HF.out.2⟩
      · go_wp2_with fail
        refine (HP.out (p + 1) 2 _ SP6.out.rd (by omega) (by omega) (by omega)).mono ?_
        rintro e w7 ⟨y, rfl, hy, hr7, hg7⟩
        have SP7 := hid (SP6.out.step hr7 hg7)
        clear hr7 hg7 SP6
        go_wp2
        go_loopw [] (fun wr => ∃ (ss' : List ByteArray) (a' : Option Addr) (c' : Nat), Spo w wr rb a nn cap bs (p + 1 + 1) b5 n n (.slice a' ss'.length c') (.slice av ss.length cv) ss' ∧ ss'.length ≤ 401 ∧ ∀ s ∈ ss', s.size ≤ 10000) (fun wr => 1000 - boxLen wr b5)
        case atStart => exact ⟨ss, a5, c5, SP7.out, by omega, HZ.out⟩
        case round =>
          clear SP7
          obtain ⟨ss', a', c', hsp, hl', hz'⟩ := hrel
          have SPE := hid hsp
          have HZ' := hid hz'
          have e1 := SPE.out.box.c1
          have ef1 := SPE.out.box.fz 1
          clear hsp hz'
          by_cases hlt' : ss'.length < 375 + y
          · have hlt'' : (ss'.length : Int) < 375 + (y : Int) := by omega
            have hal := SPE.out.rd.lt
            have hsz8 : w.heap.size + 2 ≤ wr.heap.size := by have := SPE.out.ge; have := SPE.out.box.lt; omega
            go_wp2_with (at_builtin; refine wpList_append_own _ rfl _ _ 25 rfl (w.heap.size + 2) 9 i0 (.string ⟨#[]⟩) 1 16 Tryz.underlying25 hi hz0 hz1 hz2 rfl (by decide) _ _ _ rfl (SPE.out.row.alloc _) ⟨_, 0, none⟩ 1 1 [.string ⟨#[49, 50, 51, 52, 53, 54, 55, 56]⟩] rfl rfl (cell_one_new _ _ _) (by simp [Value.oneCell']) (by unfold maxLen; omega) (by omega) (by simp; omega) ?_; intro v' w8 hown' hgrow _; obtain ⟨a2, c2, rfl, _⟩ := row_form hown'; obtain ⟨bx8, sp8⟩ := (SPE.out.alloc (.cells #[.string ⟨#[49, 50, 51, 52, 53, 54, 55, 56]⟩] 9)).append (ss' := ss' ++ [⟨#[49, 50, 51, 52, 53, 54, 55, 56]⟩]) hgrow (by simpa using hown'); have d1 := bx8.c1; have df1 := bx8.fz 1; have SP8 := hid sp8; clear bx8 sp8 hown' hgrow)
            have hk8 := boxLen_of SP8.out.box
            have hk := boxLen_of SPE.out.box
            rw [hk8, hk]
            refine ⟨⟨ss' ++ [⟨#[49, 50, 51, 52, 53, 54, 55, 56]⟩], a2, c2, by simpa using SP8.out, by simp; omega, fun s hs => ?_⟩, by omega⟩
            rcases List.mem_append.1 hs with h | h
            · exact HZ'.out s h
            · simp only [List.mem_cons, List.not_mem_nil, or_false] at h
              rw [h]; decide
          · have hlt'' : ¬ ((ss'.length : Int) < 375 + (y : Int)) := by omega
            have z0 := SPE.out.box.c0
            have z1 := SPE.out.box.c1
            have zr0 := SPE.out.res.c0
            have zrf := SPE.out.res.fz 0
            have y8 := LBox.set0 n SPE.out.res
            have t1 := y8.c1
            have tf1 := y8.fz 1
            have y9 := y8.set1 (.slice a' ss'.length c')
            have HF := hid (SPE.out.fin n (.slice a' ss'.length c'))
            clear y8
            go_wp2
            exact bodyPost_ret (v := .agg #[.int .i64 n, (.slice a' ss'.length c')]) (by simp [results, Tryz.results44, go_sem, y9.c0, y9.c1]) rfl (by first | exact ⟨n, _, ss', rfl, Reads.of_row HF.out.1, by omega, HZ'.out, HF.out.2⟩ | exact ⟨n, _, rfl, ss', Reads.of_row HF.out.1, by omega, HZ'.out, HF.out.2⟩)
      · have e0 := SP6.out.box.c0
        have e1 := SP6.out.box.c1
        have r0 := SP6.out.res.c0
        have rf0 := SP6.out.res.fz 0
        by_cases hl1 : 1 < ss.length
        · have hl1' : (1 : Int) < (ss.length : Int) := by omega
          obtain ⟨_, _, e5, hg5⟩ := row_form SP6.out.row
          simp only [Value.slice.injEq] at e5
          obtain ⟨rfl, _, rfl⟩ := e5
          obtain ⟨g, rfl, hgl⟩ := hg5 (by omega)
          have q0 := SP6.out.row.cellAt 0 (by omega)
          have q1 := SP6.out.row.cellAt 1 (by omega)
          have qf := SP6.out.row.frozenAt 0
          have q0' : w6.cell? ⟨g, 0, none⟩ = some (.string (ss.getD 0 ByteArray.empty)) := by rw [q0]; simp [show 0 < ss.length by omega]
          have q1' : w6.cell? ⟨g, 1, none⟩ = some (.string (ss.getD 1 ByteArray.empty)) := by rw [q1]; simp [hl1]
          have SP7 := hid (SP6.out.put0 (ss.getD 1 ByteArray.empty))
          rw [List.length_set] at SP7
          have HS1 : Hid (∀ s ∈ ss.set 0 (ss.getD 1 ByteArray.empty), s.size ≤ 10000) := fun s hs => by
            rcases List.mem_or_eq_of_mem_set hs with h | h
            · exact HZ.out s h
            · rw [h, List.getD_eq_getElem?_getD, List.getElem?_eq_getElem hl1]; exact HZ.out _ (List.getElem_mem hl1)
          generalize ss.getD 0 ByteArray.empty = s0 at *
          generalize ss.getD 1 ByteArray.empty = s1 at *
          have z0 := SP7.out.box.c0
          have z1 := SP7.out.box.c1
          have zr0 := SP7.out.res.c0
          have zrf := SP7.out.res.fz 0
          have y8 : LBox ((w6.setCell ⟨g, 0, none⟩ (.string s1)).setCell ⟨w.heap.size + 1, 0, none⟩ (.int .i64 n)) (w.heap.size + 1) n (.slice none 0 0) := LBox.set0 n SP7.out.res
          have t1 := y8.c1
          have tf1 := y8.fz 1
          have y9 := y8.set1 (.slice (some ⟨g, 0, none⟩) ss.length c5)
          have HF := hid (SP7.out.fin n (.slice (some ⟨g, 0, none⟩) ss.length c5))
          clear q0 q1 y8 hgl hg5
          go_wp2_with fail
          go_region
          all_goals
            go_wp2
            exact bodyPost_ret (v := .agg #[.int .i64 n, .slice (some ⟨g, 0, none⟩) ss.length c5]) (by simp [results, Tryz.results44, go_sem, y9.c0, y9.c1]) rfl ⟨n, .slice (some ⟨g, 0, none⟩) ss.length c5, ss.set 0 s1, rfl, Reads.of_row (base := w.heap.size + 2) HF.out.1, by rw [List.length_set]; omega, HS1.out, grown_drew HF.out.2⟩
        · have hl1' : ¬ ((1 : Int) < (ss.length : Int)) := by omega
          have y8 : LBox (w6.setCell ⟨w.heap.size + 1, 0, none⟩ (.int .i64 n)) (w.heap.size + 1) n (.slice none 0 0) := LBox.set0 n SP6.out.res
          have s1 := y8.c1
          have sf1 := y8.fz 1
          have y9 := y8.set1 (.slice a5 ss.length c5)
          have HF := hid (SP6.out.fin n (.slice a5 ss.length c5))
          clear y8
          go_wp2
          exact bodyPost_ret (v := .agg #[.int .i64 n, .slice a5 ss.length c5]) (by simp [results, Tryz.results44, go_sem, y9.c0, y9.c1]) rfl ⟨n, _, ss, rfl, Reads.of_row HF.out.1, by omega, HZ.out, HF.out.2⟩
    · have hb7 : LBox ((wB.drew.alloc (.cells #[] 9)).alloc (.cells #[.int .i64 0, .slice none 0 0] 27)) (wB.heap.size + 1) 0 (.slice none 0 0) := by
        have := World.alloc_heap_new (wB.drew.alloc (.cells #[] 9)) (.cells #[.int .i64 0, .slice none 0 0] 27)
        rwa [hs1] at this
      refine held_one 5 (by kernel_rfl) (op_wp rfl rfl (wp_append_rows (.tmp 9) (.tmp 11) rfl (w.heap.size + 2) _ 0 [] (by go_simp) (hE.alloc _) b2 (.slice av ss.length cv) ss.length _ (by go_simp) (hVE.alloc _) HONE.out (by omega) (by rw [World.size_alloc]; omega) ?_))
      intro v5 w5 hown5 hgr5
      obtain ⟨a5, c5, rfl, _⟩ := row_form hown5
      rw [Nat.zero_add, List.nil_append] at hown5
      have hgr : ((wB.drew.alloc (.cells #[] 9)).alloc (.cells #[.int .i64 0, .slice none 0 0] 27)).grownBy w5 (some wB.heap.size) := hgr5
      have hS5 := (hSE.alloc (.cells #[.int .i64 0, .slice none 0 0] 27)).grown hgr (by simp; omega)
      have HB5 := hid (hb7.grown hgr (by simp))
      have HSPO := hid (HSP.out w5 (wB.heap.size + 1) (.slice a5 ss.length c5) ((hr1.keep ((Below.refl (rb + 1) _).alloc (by rw [hs1]; omega) _)).grown2 hgr (by omega)) hS5 ((h41.alloc (.cells #[.int .i64 0, .slice none 0 0] 27)).grown hgr (by simp; omega)) (grownBy_trans (grown_alloc hg1 _) hgr (fun g e => .inr (by cases e; omega))) (by omega) HB5.out hown5)
      refine ⟨hS5, wpAnyH_take (i := 6) (v := .agg #[.int .i64 n, .slice a5 (0 + ss.length) c5]) rfl (by kernel_rfl) (by kernel_rfl) (by kernel_rfl) (fun _ _ _ h => h) (.inl ⟨rfl, fun w' hS => by go_simp⟩) hS5 ?_⟩
      rw [Nat.zero_add]
      have bn : LBox w5 (wB.heap.size + 1) 0 (.slice none 0 0) := HB5.out
      have e0 := bn.c0
      have e1 := bn.c1
      have ef0 := bn.fz 0
      have bs0 : LBox (w5.setCell ⟨wB.heap.size + 1, 0, none⟩ (.int .i64 n)) (wB.heap.size + 1) n (.slice none 0 0) := LBox.set0 n bn
      have g1 := bs0.c1
      have gf1 := bs0.fz 1
      have hS8 := HSPO.out.arg
      refine held_one 8 (by kernel_rfl) (op_skip (w' := (w5.setCell ⟨wB.heap.size + 1, 0, none⟩ (.int .i64 n)).setCell ⟨wB.heap.size + 1, 1, none⟩ (.slice a5 ss.length c5)) rfl rfl (by go_simp) ⟨hS8, wpAnyH_done (by kernel_rfl) ?_ _⟩)
      clear bn e0 e1 ef0 bs0 g1 gf1 hS8 HB5
      generalize hW8 : (w5.setCell ⟨wB.heap.size + 1, 0, none⟩ (.int .i64 n)).setCell ⟨wB.heap.size + 1, 1, none⟩ (.slice a5 ss.length c5) = W8 at *
      generalize hB8 : wB.heap.size + 1 = b5 at *
      clear hW8 hB8
      clear hS5 hgr hown5 hgr5 hb7 hg1 hr1 h41 hs1
      have hv5l : True := trivial
      clear hE hSE hVE HSP hS0 c0 c1 HR HV HG H3 H4
      go_simp
      go_wp2_with fail
      refine (HP.out p 5 _ HSPO.out.rd (by omega) (by omega) (by omega)).mono ?_
      rintro e w6 ⟨x, rfl, hx, hr6, hg6⟩
      have SP6 := hid (HSPO.out.step hr6 hg6)
      clear hr6 hg6 HSPO
      have hx5 : x = 0 ∨ x = 1 ∨ x = 2 ∨ x = 3 ∨ x = 4 := by omega
      rcases hx5 with rfl | rfl | rfl | rfl | rfl
      · have hlt6 := SP6.out.rd.lt
        have hn1 : IntKind.i64.wrap (n + 1) = n + 1 := by rw [IntKind.wrap_i64]; omega
        have k0 := SP6.out.arg.c0
        have HRA := hid (SP6.out.alloc (.cells #[.int .i64 (-1), .int .i64 0, .int .i64 3000, .int .i64 3001, .int .i64 (n + 1)] 3)).drew
        have HRB := hid SP6.out.drew
        have HTA := hid fun (w4 : World) (x : Nat) (hx : x < 5) (hg : (w6.alloc (.cells #[.int .i64 (-1), .int .i64 0, .int .i64 3000, .int .i64 3001, .int .i64 (n + 1)] 3)).drew.grownBy w4 (some rb)) => five_kept2 (w := w6) hg hlt6 hx
        have HTB := hid fun (w4 : World) (x : Nat) (hx : x < 5) => five_new2 w4 (-1) 0 3000 3001 (n + 1) hx
        go_wp2_with fail
        go_region_with (go_at_call 19; first
          | (refine (HP.out (p + 1) 5 _ HRA.out.rd (by omega) (by omega) (by omega)).mono ?_; rintro e w7 ⟨x4, rfl, hx4, hr7, hg7⟩; obtain ⟨z, hz⟩ := HTA.out w7 x4 (by omega) hg7; have SP7 := hid (HRA.out.step hr7 hg7); have q0 := SP7.out.box.c0; have qf := SP7.out.box.fz 0; have k7 := SP7.out.arg.c0)
          | (refine (HP.out (p + 1) 5 _ HRB.out.rd (by omega) (by omega) (by omega)).mono ?_; rintro e w7 ⟨x4, rfl, hx4, hr7, hg7⟩; obtain ⟨z, hz⟩ := HTB.out w7 x4 (by omega); have SP7 := hid ((HRB.out.step hr7 hg7).alloc (.cells #[.int .i64 (-1), .int .i64 0, .int .i64 3000, .int .i64 3001, .int .i64 (n + 1)] 3)); have q0 := SP7.out.box.c0; have qf := SP7.out.box.fz 0; have k7 := (HRB.out.step hr7 hg7).arg.c0))
        all_goals
          have SPE := hid (SP7.out.size z)
          have z0 := SPE.out.box.c0
          have z1 := SPE.out.box.c1
          have zr0 := SPE.out.res.c0
          have zrf := SPE.out.res.fz 0
          have y8 := LBox.set0 z SPE.out.res
          have t1 := y8.c1
          have tf1 := y8.fz 1
          have y9 := y8.set1 (.slice a5 ss.length c5)
          have HF := hid (SPE.out.fin z (.slice a5 ss.length c5))
          clear y8
          go_wp2
          exact bodyPost_ret (v := .agg #[.int .i64 z, (.slice a5 ss.length c5)]) (by simp [results, Tryz.results44, go_sem, y9.c0, y9.c1]) rfl ⟨z, _, ss, rfl, Reads.of_row HF.out.1, by omega, HZ.out, HF.out.2⟩
      · have hlt6 := SP6.out.rd.lt
        have q1 := SP6.out.box.c1
        have HRB := hid SP6.out.drew
        go_wp2_with fail
        refine wp_region_held (S := fun _ => True) (by kernel_rfl) ?_
        change wpAnyH _ _ _ _ _ _ _ _ (World.drew _)
        refine wpAnyH_take (i := 0) (v := .pointer (some ⟨b5, 1, none⟩)) rfl (by kernel_rfl) (by kernel_rfl) (by kernel_rfl) (fun _ _ _ h => h) (.inl ⟨rfl, fun w' _ => by go_simp⟩) trivial ?_
        refine wpAnyH_take (i := 3) (v := .pointer (some ⟨rb, 0, none⟩)) rfl (by kernel_rfl) (by kernel_rfl) (by kernel_rfl) (fun _ _ _ h => h) (.inl ⟨rfl, fun w' _ => by go_simp⟩) trivial ?_
        have hec := enters_of Tryz.func19 (by kernel_rfl) rfl
        have v1 := fun o => (SP6.out.box.alloc o).c1
        refine held_three 1 2 4 (by kernel_rfl) (op_value (v := .slice a5 ss.length c5) (w' := w6.drew) rfl rfl (by go_simp) ⟨trivial, ?_⟩) (op_value (v := .slice (some ⟨w6.heap.size, 0, none⟩) 3 3) (w' := w6.drew.alloc (.cells #[.string ⟨#[]⟩, .string ⟨#[120]⟩, .string ⟨#[49, 50, 51, 52, 53, 54, 55, 56]⟩] 9)) rfl rfl (by go_simp) ⟨trivial, ?_⟩) (op_calls (f := 19) (args := #[.pointer (some ⟨rb, 0, none⟩), .int .i64 3]) rfl rfl (by go_simp) (HP.out (p + 1) 3 _ HRB.out.rd (by omega) (by omega) (by omega)) ?_)
        · refine held_two 2 4 (by kernel_rfl) (op_value (v := .slice (some ⟨w6.heap.size, 0, none⟩) 3 3) (w' := w6.drew.alloc (.cells #[.string ⟨#[]⟩, .string ⟨#[120]⟩, .string ⟨#[49, 50, 51, 52, 53, 54, 55, 56]⟩] 9)) rfl rfl (by go_simp) ⟨trivial, ?_⟩) (op_calls (f := 19) (args := #[.pointer (some ⟨rb, 0, none⟩), .int .i64 3]) rfl rfl (by go_simp) (HP.out (p + 1) 3 _ HRB.out.rd (by omega) (by omega) (by omega)) ?_)
          · have SPn0 := hid (HRB.out.alloc (.cells #[.string ⟨#[]⟩, .string ⟨#[120]⟩, .string ⟨#[49, 50, 51, 52, 53, 54, 55, 56]⟩] 9))
            have uSPn0 := SPn0.out.box.c1
            refine held_one 4 (by kernel_rfl) (op_calls (f := 19) (args := #[.pointer (some ⟨rb, 0, none⟩), .int .i64 3]) rfl rfl (by go_simp) (HP.out (p + 1) 3 _ SPn0.out.rd (by omega) (by omega) (by omega)) ?_)
            rintro e w7 ⟨x4, rfl, hx4, hr7, hg7⟩
            have hx4' : (x4 : Int) < 3 := by omega
            have SPn1 := hid (SPn0.out.step hr7 hg7)
            obtain ⟨z, hzs, hzc⟩ := three_kept (x := x4) hg7 hlt6 (by omega)
            have HZ3 : Hid (∀ s ∈ ss ++ [z], s.size ≤ 10000) := sizes_app HZ.out (by omega)
            have hs71 := hg7.size
            clear hr7 hg7
            refine ⟨_, rfl, trivial, ?_⟩
            refine wpAnyH_take (i := 5) (v := .pointer (some ⟨w6.heap.size, x4, none⟩)) rfl (by kernel_rfl) (by kernel_rfl) (by kernel_rfl) (fun _ _ _ h => h) (.inl ⟨rfl, fun w' _ => by go_simp⟩) trivial ?_
            refine held_one 6 (by kernel_rfl) (op_value (v := .string z) (w' := w7) rfl rfl (by go_simp) ⟨trivial, ?_⟩)
            refine held_one 7 (by kernel_rfl) (op_value (v := .slice (some ⟨w7.heap.size, 0, none⟩) 1 1) (w' := w7.alloc (.cells #[.string z] 9)) rfl rfl (by go_simp) ⟨trivial, ?_⟩)
            have SPn2 := hid (SPn1.out.alloc (.cells #[.string z] 9))
            refine held_one 8 (by kernel_rfl) (op_wp rfl rfl (wp_append_lies _ (.tmp 41) (.tmp 47) 25 rfl (w.heap.size + 2) 9 i0 (.string ⟨#[]⟩) 1 16 Tryz.underlying25 hi hz0 hz1 hz2 rfl (by decide) (.slice a5 ss.length c5) ss.length _ (by go_simp) SPn2.out.row ⟨w7.heap.size, 0, none⟩ 1 1 [.string z] (by go_simp) rfl (one_new w7 z w7.heap.size (by simp)) (by simp [Value.oneCell']) (by decide) (by unfold maxLen; omega) (by omega) SPn2.out.room _ rfl ?_))
            intro g' cap' w8 hown8 hgrow8 _ _
            obtain ⟨bx8, sp8⟩ := SPn2.out.append (ss' := ss ++ [z]) hgrow8 (by simpa using hown8)
            have d1 := bx8.c1
            have df1 := bx8.fz 1
            have SPE := hid sp8
            clear bx8 sp8 hown8 hgrow8
            refine ⟨trivial, held_one 9 (by kernel_rfl) (op_value (v := .pointer (some ⟨b5, 1, none⟩)) (w' := w8) rfl rfl (by go_simp) ⟨trivial, held_one 10 (by kernel_rfl) (op_skip (w' := w8.setCell ⟨b5, 1, none⟩ (.slice (some ⟨g', 0, none⟩) (ss.length + 1) cap')) rfl rfl (by go_simp) ⟨trivial, wpAnyH_done (by kernel_rfl) ?_ _⟩)⟩)⟩
            have z0 := SPE.out.box.c0
            have z1 := SPE.out.box.c1
            have zr0 := SPE.out.res.c0
            have zrf := SPE.out.res.fz 0
            have y8 := LBox.set0 n SPE.out.res
            have t1 := y8.c1
            have tf1 := y8.fz 1
            have y9 := y8.set1 (.slice (some ⟨g', 0, none⟩) (ss.length + 1) cap')
            have HF := hid (SPE.out.fin n (.slice (some ⟨g', 0, none⟩) (ss.length + 1) cap'))
            clear y8
            go_simp
            go_wp2
            exact bodyPost_ret (v := .agg #[.int .i64 n, .slice (some ⟨g', 0, none⟩) (ss.length + 1) cap']) (by simp [results, Tryz.results44, go_sem, y9.c0, y9.c1]) rfl ⟨n, _, ss ++ [z], rfl, Reads.of_row HF.out.1, by simp; omega, HZ3.out, HF.out.2⟩
          · rintro e w7 ⟨x4, rfl, hx4, hr7, hg7⟩
            have hx4' : (x4 : Int) < 3 := by omega
            have SPn0 := hid (HRB.out.step hr7 hg7)
            have hs70 := hg7.size
            clear hr7 hg7
            refine ⟨_, rfl, trivial, ?_⟩
            refine held_one 2 (by kernel_rfl) (op_value (v := .slice (some ⟨w7.heap.size, 0, none⟩) 3 3) (w' := w7.alloc (.cells #[.string ⟨#[]⟩, .string ⟨#[120]⟩, .string ⟨#[49, 50, 51, 52, 53, 54, 55, 56]⟩] 9)) rfl rfl (by go_simp) ⟨trivial, ?_⟩)
            have SPn1 := hid (SPn0.out.alloc (.cells #[.string ⟨#[]⟩, .string ⟨#[120]⟩, .string ⟨#[49, 50, 51, 52, 53, 54, 55, 56]⟩] 9))
            have uSPn1 := SPn1.out.box.c1
            obtain ⟨z, hzs, hzc⟩ := three_new w7 (x := x4) (by omega)
            have HZ3 : Hid (∀ s ∈ ss ++ [z], s.size ≤ 10000) := sizes_app HZ.out (by omega)
            refine wpAnyH_take (i := 5) (v := .pointer (some ⟨w7.heap.size, x4, none⟩)) rfl (by kernel_rfl) (by kernel_rfl) (by kernel_rfl) (fun _ _ _ h => h) (.inl ⟨rfl, fun w' _ => by go_simp⟩) trivial ?_
            refine held_one 6 (by kernel_rfl) (op_value (v := .string z) (w' := (w7.alloc (.cells #[.string ⟨#[]⟩, .string ⟨#[120]⟩, .string ⟨#[49, 50, 51, 52, 53, 54, 55, 56]⟩] 9))) rfl rfl (by go_simp) ⟨trivial, ?_⟩)
            refine held_one 7 (by kernel_rfl) (op_value (v := .slice (some ⟨w7.heap.size + 1, 0, none⟩) 1 1) (w' := (w7.alloc (.cells #[.string ⟨#[]⟩, .string ⟨#[120]⟩, .string ⟨#[49, 50, 51, 52, 53, 54, 55, 56]⟩] 9)).alloc (.cells #[.string z] 9)) rfl rfl (by go_simp) ⟨trivial, ?_⟩)
            have SPn2 := hid (SPn1.out.alloc (.cells #[.string z] 9))
            refine held_one 8 (by kernel_rfl) (op_wp rfl rfl (wp_append_lies _ (.tmp 41) (.tmp 47) 25 rfl (w.heap.size + 2) 9 i0 (.string ⟨#[]⟩) 1 16 Tryz.underlying25 hi hz0 hz1 hz2 rfl (by decide) (.slice a5 ss.length c5) ss.length _ (by go_simp) SPn2.out.row ⟨w7.heap.size + 1, 0, none⟩ 1 1 [.string z] (by go_simp) rfl (one_new (w7.alloc (.cells #[.string ⟨#[]⟩, .string ⟨#[120]⟩, .string ⟨#[49, 50, 51, 52, 53, 54, 55, 56]⟩] 9)) z (w7.heap.size + 1) (by simp)) (by simp [Value.oneCell']) (by decide) (by unfold maxLen; omega) (by omega) SPn2.out.room _ rfl ?_))
            intro g' cap' w8 hown8 hgrow8 _ _
            obtain ⟨bx8, sp8⟩ := SPn2.out.append (ss' := ss ++ [z]) hgrow8 (by simpa using hown8)
            have d1 := bx8.c1
            have df1 := bx8.fz 1
            have SPE := hid sp8
            clear bx8 sp8 hown8 hgrow8
            refine ⟨trivial, held_one 9 (by kernel_rfl) (op_value (v := .pointer (some ⟨b5, 1, none⟩)) (w' := w8) rfl rfl (by go_simp) ⟨trivial, held_one 10 (by kernel_rfl) (op_skip (w' := w8.setCell ⟨b5, 1, none⟩ (.slice (some ⟨g', 0, none⟩) (ss.length + 1) cap')) rfl rfl (by go_simp) ⟨trivial, wpAnyH_done (by kernel_rfl) ?_ _⟩)⟩)⟩
            have z0 := SPE.out.box.c0
            have z1 := SPE.out.box.c1
            have zr0 := SPE.out.res.c0
            have zrf := SPE.out.res.fz 0
            have y8 := LBox.set0 n SPE.out.res
            have t1 := y8.c1
            have tf1 := y8.fz 1
            have y9 := y8.set1 (.slice (some ⟨g', 0, none⟩) (ss.length + 1) cap')
            have HF := hid (SPE.out.fin n (.slice (some ⟨g', 0, none⟩) (ss.length + 1) cap'))
            clear y8
            go_simp
            go_wp2
            exact bodyPost_ret (v := .agg #[.int .i64 n, .slice (some ⟨g', 0, none⟩) (ss.length + 1) cap']) (by simp [results, Tryz.results44, go_sem, y9.c0, y9.c1]) rfl ⟨n, _, ss ++ [z], rfl, Reads.of_row HF.out.1, by simp; omega, HZ3.out, HF.out.2⟩
        · have SPn0 := hid (HRB.out.alloc (.cells #[.string ⟨#[]⟩, .string ⟨#[120]⟩, .string ⟨#[49, 50, 51, 52, 53, 54, 55, 56]⟩] 9))
          have uSPn0 := SPn0.out.box.c1
          refine held_two 1 4 (by kernel_rfl) (op_value (v := .slice a5 ss.length c5) (w' := (w6.drew.alloc (.cells #[.string ⟨#[]⟩, .string ⟨#[120]⟩, .string ⟨#[49, 50, 51, 52, 53, 54, 55, 56]⟩] 9))) rfl rfl (by go_simp) ⟨trivial, ?_⟩) (op_calls (f := 19) (args := #[.pointer (some ⟨rb, 0, none⟩), .int .i64 3]) rfl rfl (by go_simp) (HP.out (p + 1) 3 _ SPn0.out.rd (by omega) (by omega) (by omega)) ?_)
          · refine held_one 4 (by kernel_rfl) (op_calls (f := 19) (args := #[.pointer (some ⟨rb, 0, none⟩), .int .i64 3]) rfl rfl (by go_simp) (HP.out (p + 1) 3 _ SPn0.out.rd (by omega) (by omega) (by omega)) ?_)
            rintro e w7 ⟨x4, rfl, hx4, hr7, hg7⟩
            have hx4' : (x4 : Int) < 3 := by omega
            have SPn1 := hid (SPn0.out.step hr7 hg7)
            obtain ⟨z, hzs, hzc⟩ := three_kept (x := x4) hg7 hlt6 (by omega)
            have HZ3 : Hid (∀ s ∈ ss ++ [z], s.size ≤ 10000) := sizes_app HZ.out (by omega)
            have hs71 := hg7.size
            clear hr7 hg7
            refine ⟨_, rfl, trivial, ?_⟩
            refine wpAnyH_take (i := 5) (v := .pointer (some ⟨w6.heap.size, x4, none⟩)) rfl (by kernel_rfl) (by kernel_rfl) (by kernel_rfl) (fun _ _ _ h => h) (.inl ⟨rfl, fun w' _ => by go_simp⟩) trivial ?_
            refine held_one 6 (by kernel_rfl) (op_value (v := .string z) (w' := w7) rfl rfl (by go_simp) ⟨trivial, ?_⟩)
            refine held_one 7 (by kernel_rfl) (op_value (v := .slice (some ⟨w7.heap.size, 0, none⟩) 1 1) (w' := w7.alloc (.cells #[.string z] 9)) rfl rfl (by go_simp) ⟨trivial, ?_⟩)
            have SPn2 := hid (SPn1.out.alloc (.cells #[.string z] 9))
            refine held_one 8 (by kernel_rfl) (op_wp rfl rfl (wp_append_lies _ (.tmp 41) (.tmp 47) 25 rfl (w.heap.size + 2) 9 i0 (.string ⟨#[]⟩) 1 16 Tryz.underlying25 hi hz0 hz1 hz2 rfl (by decide) (.slice a5 ss.length c5) ss.length _ (by go_simp) SPn2.out.row ⟨w7.heap.size, 0, none⟩ 1 1 [.string z] (by go_simp) rfl (one_new w7 z w7.heap.size (by simp)) (by simp [Value.oneCell']) (by decide) (by unfold maxLen; omega) (by omega) SPn2.out.room _ rfl ?_))
            intro g' cap' w8 hown8 hgrow8 _ _
            obtain ⟨bx8, sp8⟩ := SPn2.out.append (ss' := ss ++ [z]) hgrow8 (by simpa using hown8)
            have d1 := bx8.c1
            have df1 := bx8.fz 1
            have SPE := hid sp8
            clear bx8 sp8 hown8 hgrow8
            refine ⟨trivial, held_one 9 (by kernel_rfl) (op_value (v := .pointer (some ⟨b5, 1, none⟩)) (w' := w8) rfl rfl (by go_simp) ⟨trivial, held_one 10 (by kernel_rfl) (op_skip (w' := w8.setCell ⟨b5, 1, none⟩ (.slice (some ⟨g', 0, none⟩) (ss.length + 1) cap')) rfl rfl (by go_simp) ⟨trivial, wpAnyH_done (by kernel_rfl) ?_ _⟩)⟩)⟩
            have z0 := SPE.out.box.c0
            have z1 := SPE.out.box.c1
            have zr0 := SPE.out.res.c0
            have zrf := SPE.out.res.fz 0
            have y8 := LBox.set0 n SPE.out.res
            have t1 := y8.c1
            have tf1 := y8.fz 1
            have y9 := y8.set1 (.slice (some ⟨g', 0, none⟩) (ss.length + 1) cap')
            have HF := hid (SPE.out.fin n (.slice (some ⟨g', 0, none⟩) (ss.length + 1) cap'))
            clear y8
            go_simp
            go_wp2
            exact bodyPost_ret (v := .agg #[.int .i64 n, .slice (some ⟨g', 0, none⟩) (ss.length + 1) cap']) (by simp [results, Tryz.results44, go_sem, y9.c0, y9.c1]) rfl ⟨n, _, ss ++ [z], rfl, Reads.of_row HF.out.1, by simp; omega, HZ3.out, HF.out.2⟩
          · rintro e w7 ⟨x4, rfl, hx4, hr7, hg7⟩
            have hx4' : (x4 : Int) < 3 := by omega
            have SPn1 := hid (SPn0.out.step hr7 hg7)
            obtain ⟨z, hzs, hzc⟩ := three_kept (x := x4) hg7 hlt6 (by omega)
            have HZ3 : Hid (∀ s ∈ ss ++ [z], s.size ≤ 10000) := sizes_app HZ.out (by omega)
            have hs71 := hg7.size
            clear hr7 hg7
            refine ⟨_, rfl, trivial, ?_⟩
            have u1 := SPn1.out.box.c1
            refine wpAnyH_take (i := 5) (v := .pointer (some ⟨w6.heap.size, x4, none⟩)) rfl (by kernel_rfl) (by kernel_rfl) (by kernel_rfl) (fun _ _ _ h => h) (.inl ⟨rfl, fun w' _ => by go_simp⟩) trivial ?_
            refine held_two 1 6 (by kernel_rfl) (op_value (v := .slice a5 ss.length c5) (w' := w7) rfl rfl (by go_simp) ⟨trivial, ?_⟩) (op_value (v := .string z) (w' := w7) rfl rfl (by go_simp) ⟨trivial, ?_⟩)
            · refine held_one 6 (by kernel_rfl) (op_value (v := .string z) (w' := w7) rfl rfl (by go_simp) ⟨trivial, ?_⟩)
              refine held_one 7 (by kernel_rfl) (op_value (v := .slice (some ⟨w7.heap.size, 0, none⟩) 1 1) (w' := w7.alloc (.cells #[.string z] 9)) rfl rfl (by go_simp) ⟨trivial, ?_⟩)
              have SPn2 := hid (SPn1.out.alloc (.cells #[.string z] 9))
              refine held_one 8 (by kernel_rfl) (op_wp rfl rfl (wp_append_lies _ (.tmp 41) (.tmp 47) 25 rfl (w.heap.size + 2) 9 i0 (.string ⟨#[]⟩) 1 16 Tryz.underlying25 hi hz0 hz1 hz2 rfl (by decide) (.slice a5 ss.length c5) ss.length _ (by go_simp) SPn2.out.row ⟨w7.heap.size, 0, none⟩ 1 1 [.string z] (by go_simp) rfl (one_new w7 z w7.heap.size (by simp)) (by simp [Value.oneCell']) (by decide) (by unfold maxLen; omega) (by omega) SPn2.out.room _ rfl ?_))
              intro g' cap' w8 hown8 hgrow8 _ _
              obtain ⟨bx8, sp8⟩ := SPn2.out.append (ss' := ss ++ [z]) hgrow8 (by simpa using hown8)
              have d1 := bx8.c1
              have df1 := bx8.fz 1
              have SPE := hid sp8
              clear bx8 sp8 hown8 hgrow8
              refine ⟨trivial, held_one 9 (by kernel_rfl) (op_value (v := .pointer (some ⟨b5, 1, none⟩)) (w' := w8) rfl rfl (by go_simp) ⟨trivial, held_one 10 (by kernel_rfl) (op_skip (w' := w8.setCell ⟨b5, 1, none⟩ (.slice (some ⟨g', 0, none⟩) (ss.length + 1) cap')) rfl rfl (by go_simp) ⟨trivial, wpAnyH_done (by kernel_rfl) ?_ _⟩)⟩)⟩
              have z0 := SPE.out.box.c0
              have z1 := SPE.out.box.c1
              have zr0 := SPE.out.res.c0
              have zrf := SPE.out.res.fz 0
              have y8 := LBox.set0 n SPE.out.res
              have t1 := y8.c1
              have tf1 := y8.fz 1
              have y9 := y8.set1 (.slice (some ⟨g', 0, none⟩) (ss.length + 1) cap')
              have HF := hid (SPE.out.fin n (.slice (some ⟨g', 0, none⟩) (ss.length + 1) cap'))
              clear y8
              go_simp
              go_wp2
              exact bodyPost_ret (v := .agg #[.int .i64 n, .slice (some ⟨g', 0, none⟩) (ss.length + 1) cap']) (by simp [results, Tryz.results44, go_sem, y9.c0, y9.c1]) rfl ⟨n, _, ss ++ [z], rfl, Reads.of_row HF.out.1, by simp; omega, HZ3.out, HF.out.2⟩
            · refine held_two 1 7 (by kernel_rfl) (op_value (v := .slice a5 ss.length c5) (w' := w7) rfl rfl (by go_simp) ⟨trivial, ?_⟩) (op_value (v := .slice (some ⟨w7.heap.size, 0, none⟩) 1 1) (w' := w7.alloc (.cells #[.string z] 9)) rfl rfl (by go_simp) ⟨trivial, ?_⟩)
              · refine held_one 7 (by kernel_rfl) (op_value (v := .slice (some ⟨w7.heap.size, 0, none⟩) 1 1) (w' := w7.alloc (.cells #[.string z] 9)) rfl rfl (by go_simp) ⟨trivial, ?_⟩)
                have SPn2 := hid (SPn1.out.alloc (.cells #[.string z] 9))
                refine held_one 8 (by kernel_rfl) (op_wp rfl rfl (wp_append_lies _ (.tmp 41) (.tmp 47) 25 rfl (w.heap.size + 2) 9 i0 (.string ⟨#[]⟩) 1 16 Tryz.underlying25 hi hz0 hz1 hz2 rfl (by decide) (.slice a5 ss.length c5) ss.length _ (by go_simp) SPn2.out.row ⟨w7.heap.size, 0, none⟩ 1 1 [.string z] (by go_simp) rfl (one_new w7 z w7.heap.size (by simp)) (by simp [Value.oneCell']) (by decide) (by unfold maxLen; omega) (by omega) SPn2.out.room _ rfl ?_))
                intro g' cap' w8 hown8 hgrow8 _ _
                obtain ⟨bx8, sp8⟩ := SPn2.out.append (ss' := ss ++ [z]) hgrow8 (by simpa using hown8)
                have d1 := bx8.c1
                have df1 := bx8.fz 1
                have SPE := hid sp8
                clear bx8 sp8 hown8 hgrow8
                refine ⟨trivial, held_one 9 (by kernel_rfl) (op_value (v := .pointer (some ⟨b5, 1, none⟩)) (w' := w8) rfl rfl (by go_simp) ⟨trivial, held_one 10 (by kernel_rfl) (op_skip (w' := w8.setCell ⟨b5, 1, none⟩ (.slice (some ⟨g', 0, none⟩) (ss.length + 1) cap')) rfl rfl (by go_simp) ⟨trivial, wpAnyH_done (by kernel_rfl) ?_ _⟩)⟩)⟩
                have z0 := SPE.out.box.c0
                have z1 := SPE.out.box.c1
                have zr0 := SPE.out.res.c0
                have zrf := SPE.out.res.fz 0
                have y8 := LBox.set0 n SPE.out.res
                have t1 := y8.c1
                have tf1 := y8.fz 1
                have y9 := y8.set1 (.slice (some ⟨g', 0, none⟩) (ss.length + 1) cap')
                have HF := hid (SPE.out.fin n (.slice (some ⟨g', 0, none⟩) (ss.length + 1) cap'))
                clear y8
                go_simp
                go_wp2
                exact bodyPost_ret (v := .agg #[.int .i64 n, .slice (some ⟨g', 0, none⟩) (ss.length + 1) cap']) (by simp [results, Tryz.results44, go_sem, y9.c0, y9.c1]) rfl ⟨n, _, ss ++ [z], rfl, Reads.of_row HF.out.1, by simp; omega, HZ3.out, HF.out.2⟩
              · have SPn2 := hid (SPn1.out.alloc (.cells #[.string z] 9))
                have u2 := SPn2.out.box.c1
                refine held_one 1 (by kernel_rfl) (op_value (v := .slice a5 ss.length c5) (w' := (w7.alloc (.cells #[.string z] 9))) rfl rfl (by go_simp) ⟨trivial, ?_⟩)
                refine held_one 8 (by kernel_rfl) (op_wp rfl rfl (wp_append_lies _ (.tmp 41) (.tmp 47) 25 rfl (w.heap.size + 2) 9 i0 (.string ⟨#[]⟩) 1 16 Tryz.underlying25 hi hz0 hz1 hz2 rfl (by decide) (.slice a5 ss.length c5) ss.length _ (by go_simp) SPn2.out.row ⟨w7.heap.size, 0, none⟩ 1 1 [.string z] (by go_simp) rfl (one_new w7 z w7.heap.size (by simp)) (by simp [Value.oneCell']) (by decide) (by unfold maxLen; omega) (by omega) SPn2.out.room _ rfl ?_))
                intro g' cap' w8 hown8 hgrow8 _ _
                obtain ⟨bx8, sp8⟩ := SPn2.out.append (ss' := ss ++ [z]) hgrow8 (by simpa using hown8)
                have d1 := bx8.c1
                have df1 := bx8.fz 1
                have SPE := hid sp8
                clear bx8 sp8 hown8 hgrow8
                refine ⟨trivial, held_one 9 (by kernel_rfl) (op_value (v := .pointer (some ⟨b5, 1, none⟩)) (w' := w8) rfl rfl (by go_simp) ⟨trivial, held_one 10 (by kernel_rfl) (op_skip (w' := w8.setCell ⟨b5, 1, none⟩ (.slice (some ⟨g', 0, none⟩) (ss.length + 1) cap')) rfl rfl (by go_simp) ⟨trivial, wpAnyH_done (by kernel_rfl) ?_ _⟩)⟩)⟩
                have z0 := SPE.out.box.c0
                have z1 := SPE.out.box.c1
                have zr0 := SPE.out.res.c0
                have zrf := SPE.out.res.fz 0
                have y8 := LBox.set0 n SPE.out.res
                have t1 := y8.c1
                have tf1 := y8.fz 1
                have y9 := y8.set1 (.slice (some ⟨g', 0, none⟩) (ss.length + 1) cap')
                have HF := hid (SPE.out.fin n (.slice (some ⟨g', 0, none⟩) (ss.length + 1) cap'))
                clear y8
                go_simp
                go_wp2
                exact bodyPost_ret (v := .agg #[.int .i64 n, .slice (some ⟨g', 0, none⟩) (ss.length + 1) cap']) (by simp [results, Tryz.results44, go_sem, y9.c0, y9.c1]) rfl ⟨n, _, ss ++ [z], rfl, Reads.of_row HF.out.1, by simp; omega, HZ3.out, HF.out.2⟩
        · rintro e w7 ⟨x4, rfl, hx4, hr7, hg7⟩
          have hx4' : (x4 : Int) < 3 := by omega
          have SPn0 := hid (HRB.out.step hr7 hg7)
          have hs70 := hg7.size
          clear hr7 hg7
          refine ⟨_, rfl, trivial, ?_⟩
          have u0 := SPn0.out.box.c1
          refine held_two 1 2 (by kernel_rfl) (op_value (v := .slice a5 ss.length c5) (w' := w7) rfl rfl (by go_simp) ⟨trivial, ?_⟩) (op_value (v := .slice (some ⟨w7.heap.size, 0, none⟩) 3 3) (w' := w7.alloc (.cells #[.string ⟨#[]⟩, .string ⟨#[120]⟩, .string ⟨#[49, 50, 51, 52, 53, 54, 55, 56]⟩] 9)) rfl rfl (by go_simp) ⟨trivial, ?_⟩)
          · refine held_one 2 (by kernel_rfl) (op_value (v := .slice (some ⟨w7.heap.size, 0, none⟩) 3 3) (w' := w7.alloc (.cells #[.string ⟨#[]⟩, .string ⟨#[120]⟩, .string ⟨#[49, 50, 51, 52, 53, 54, 55, 56]⟩] 9)) rfl rfl (by go_simp) ⟨trivial, ?_⟩)
            have SPn1 := hid (SPn0.out.alloc (.cells #[.string ⟨#[]⟩, .string ⟨#[120]⟩, .string ⟨#[49, 50, 51, 52, 53, 54, 55, 56]⟩] 9))
            have uSPn1 := SPn1.out.box.c1
            obtain ⟨z, hzs, hzc⟩ := three_new w7 (x := x4) (by omega)
            have HZ3 : Hid (∀ s ∈ ss ++ [z], s.size ≤ 10000) := sizes_app HZ.out (by omega)
            refine wpAnyH_take (i := 5) (v := .pointer (some ⟨w7.heap.size, x4, none⟩)) rfl (by kernel_rfl) (by kernel_rfl) (by kernel_rfl) (fun _ _ _ h => h) (.inl ⟨rfl, fun w' _ => by go_simp⟩) trivial ?_
            refine held_one 6 (by kernel_rfl) (op_value (v := .string z) (w' := (w7.alloc (.cells #[.string ⟨#[]⟩, .string ⟨#[120]⟩, .string ⟨#[49, 50, 51, 52, 53, 54, 55, 56]⟩] 9))) rfl rfl (by go_simp) ⟨trivial, ?_⟩)
            refine held_one 7 (by kernel_rfl) (op_value (v := .slice (some ⟨w7.heap.size + 1, 0, none⟩) 1 1) (w' := (w7.alloc (.cells #[.string ⟨#[]⟩, .string ⟨#[120]⟩, .string ⟨#[49, 50, 51, 52, 53, 54, 55, 56]⟩] 9)).alloc (.cells #[.string z] 9)) rfl rfl (by go_simp) ⟨trivial, ?_⟩)
            have SPn2 := hid (SPn1.out.alloc (.cells #[.string z] 9))
            refine held_one 8 (by kernel_rfl) (op_wp rfl rfl (wp_append_lies _ (.tmp 41) (.tmp 47) 25 rfl (w.heap.size + 2) 9 i0 (.string ⟨#[]⟩) 1 16 Tryz.underlying25 hi hz0 hz1 hz2 rfl (by decide) (.slice a5 ss.length c5) ss.length _ (by go_simp) SPn2.out.row ⟨w7.heap.size + 1, 0, none⟩ 1 1 [.string z] (by go_simp) rfl (one_new (w7.alloc (.cells #[.string ⟨#[]⟩, .string ⟨#[120]⟩, .string ⟨#[49, 50, 51, 52, 53, 54, 55, 56]⟩] 9)) z (w7.heap.size + 1) (by simp)) (by simp [Value.oneCell']) (by decide) (by unfold maxLen; omega) (by omega) SPn2.out.room _ rfl ?_))
            intro g' cap' w8 hown8 hgrow8 _ _
            obtain ⟨bx8, sp8⟩ := SPn2.out.append (ss' := ss ++ [z]) hgrow8 (by simpa using hown8)
            have d1 := bx8.c1
            have df1 := bx8.fz 1
            have SPE := hid sp8
            clear bx8 sp8 hown8 hgrow8
            refine ⟨trivial, held_one 9 (by kernel_rfl) (op_value (v := .pointer (some ⟨b5, 1, none⟩)) (w' := w8) rfl rfl (by go_simp) ⟨trivial, held_one 10 (by kernel_rfl) (op_skip (w' := w8.setCell ⟨b5, 1, none⟩ (.slice (some ⟨g', 0, none⟩) (ss.length + 1) cap')) rfl rfl (by go_simp) ⟨trivial, wpAnyH_done (by kernel_rfl) ?_ _⟩)⟩)⟩
            have z0 := SPE.out.box.c0
            have z1 := SPE.out.box.c1
            have zr0 := SPE.out.res.c0
            have zrf := SPE.out.res.fz 0
            have y8 := LBox.set0 n SPE.out.res
            have t1 := y8.c1
            have tf1 := y8.fz 1
            have y9 := y8.set1 (.slice (some ⟨g', 0, none⟩) (ss.length + 1) cap')
            have HF := hid (SPE.out.fin n (.slice (some ⟨g', 0, none⟩) (ss.length + 1) cap'))
            clear y8
            go_simp
            go_wp2
            exact bodyPost_ret (v := .agg #[.int .i64 n, .slice (some ⟨g', 0, none⟩) (ss.length + 1) cap']) (by simp [results, Tryz.results44, go_sem, y9.c0, y9.c1]) rfl ⟨n, _, ss ++ [z], rfl, Reads.of_row HF.out.1, by simp; omega, HZ3.out, HF.out.2⟩
          · have SPn1 := hid (SPn0.out.alloc (.cells #[.string ⟨#[]⟩, .string ⟨#[120]⟩, .string ⟨#[49, 50, 51, 52, 53, 54, 55, 56]⟩] 9))
            have uSPn1 := SPn1.out.box.c1
            obtain ⟨z, hzs, hzc⟩ := three_new w7 (x := x4) (by omega)
            have HZ3 : Hid (∀ s ∈ ss ++ [z], s.size ≤ 10000) := sizes_app HZ.out (by omega)
            refine wpAnyH_take (i := 5) (v := .pointer (some ⟨w7.heap.size, x4, none⟩)) rfl (by kernel_rfl) (by kernel_rfl) (by kernel_rfl) (fun _ _ _ h => h) (.inl ⟨rfl, fun w' _ => by go_simp⟩) trivial ?_
            refine held_two 1 6 (by kernel_rfl) (op_value (v := .slice a5 ss.length c5) (w' := (w7.alloc (.cells #[.string ⟨#[]⟩, .string ⟨#[120]⟩, .string ⟨#[49, 50, 51, 52, 53, 54, 55, 56]⟩] 9))) rfl rfl (by go_simp) ⟨trivial, ?_⟩) (op_value (v := .string z) (w' := (w7.alloc (.cells #[.string ⟨#[]⟩, .string ⟨#[120]⟩, .string ⟨#[49, 50, 51, 52, 53, 54, 55, 56]⟩] 9))) rfl rfl (by go_simp) ⟨trivial, ?_⟩)
            · refine held_one 6 (by kernel_rfl) (op_value (v := .string z) (w' := (w7.alloc (.cells #[.string ⟨#[]⟩, .string ⟨#[120]⟩, .string ⟨#[49, 50, 51, 52, 53, 54, 55, 56]⟩] 9))) rfl rfl (by go_simp) ⟨trivial, ?_⟩)
              refine held_one 7 (by kernel_rfl) (op_value (v := .slice (some ⟨w7.heap.size + 1, 0, none⟩) 1 1) (w' := (w7.alloc (.cells #[.string ⟨#[]⟩, .string ⟨#[120]⟩, .string ⟨#[49, 50, 51, 52, 53, 54, 55, 56]⟩] 9)).alloc (.cells #[.string z] 9)) rfl rfl (by go_simp) ⟨trivial, ?_⟩)
              have SPn2 := hid (SPn1.out.alloc (.cells #[.string z] 9))
              refine held_one 8 (by kernel_rfl) (op_wp rfl rfl (wp_append_lies _ (.tmp 41) (.tmp 47) 25 rfl (w.heap.size + 2) 9 i0 (.string ⟨#[]⟩) 1 16 Tryz.underlying25 hi hz0 hz1 hz2 rfl (by decide) (.slice a5 ss.length c5) ss.length _ (by go_simp) SPn2.out.row ⟨w7.heap.size + 1, 0, none⟩ 1 1 [.string z] (by go_simp) rfl (one_new (w7.alloc (.cells #[.string ⟨#[]⟩, .string ⟨#[120]⟩, .string ⟨#[49, 50, 51, 52, 53, 54, 55, 56]⟩] 9)) z (w7.heap.size + 1) (by simp)) (by simp [Value.oneCell']) (by decide) (by unfold maxLen; omega) (by omega) SPn2.out.room _ rfl ?_))
              intro g' cap' w8 hown8 hgrow8 _ _
              obtain ⟨bx8, sp8⟩ := SPn2.out.append (ss' := ss ++ [z]) hgrow8 (by simpa using hown8)
              have d1 := bx8.c1
              have df1 := bx8.fz 1
              have SPE := hid sp8
              clear bx8 sp8 hown8 hgrow8
              refine ⟨trivial, held_one 9 (by kernel_rfl) (op_value (v := .pointer (some ⟨b5, 1, none⟩)) (w' := w8) rfl rfl (by go_simp) ⟨trivial, held_one 10 (by kernel_rfl) (op_skip (w' := w8.setCell ⟨b5, 1, none⟩ (.slice (some ⟨g', 0, none⟩) (ss.length + 1) cap')) rfl rfl (by go_simp) ⟨trivial, wpAnyH_done (by kernel_rfl) ?_ _⟩)⟩)⟩
              have z0 := SPE.out.box.c0
              have z1 := SPE.out.box.c1
              have zr0 := SPE.out.res.c0
              have zrf := SPE.out.res.fz 0
              have y8 := LBox.set0 n SPE.out.res
              have t1 := y8.c1
              have tf1 := y8.fz 1
              have y9 := y8.set1 (.slice (some ⟨g', 0, none⟩) (ss.length + 1) cap')
              have HF := hid (SPE.out.fin n (.slice (some ⟨g', 0, none⟩) (ss.length + 1) cap'))
              clear y8
              go_simp
              go_wp2
              exact bodyPost_ret (v := .agg #[.int .i64 n, .slice (some ⟨g', 0, none⟩) (ss.length + 1) cap']) (by simp [results, Tryz.results44, go_sem, y9.c0, y9.c1]) rfl ⟨n, _, ss ++ [z], rfl, Reads.of_row HF.out.1, by simp; omega, HZ3.out, HF.out.2⟩
            · refine held_two 1 7 (by kernel_rfl) (op_value (v := .slice a5 ss.length c5) (w' := (w7.alloc (.cells #[.string ⟨#[]⟩, .string ⟨#[120]⟩, .string ⟨#[49, 50, 51, 52, 53, 54, 55, 56]⟩] 9))) rfl rfl (by go_simp) ⟨trivial, ?_⟩) (op_value (v := .slice (some ⟨w7.heap.size + 1, 0, none⟩) 1 1) (w' := (w7.alloc (.cells #[.string ⟨#[]⟩, .string ⟨#[120]⟩, .string ⟨#[49, 50, 51, 52, 53, 54, 55, 56]⟩] 9)).alloc (.cells #[.string z] 9)) rfl rfl (by go_simp) ⟨trivial, ?_⟩)
              · refine held_one 7 (by kernel_rfl) (op_value (v := .slice (some ⟨w7.heap.size + 1, 0, none⟩) 1 1) (w' := (w7.alloc (.cells #[.string ⟨#[]⟩, .string ⟨#[120]⟩, .string ⟨#[49, 50, 51, 52, 53, 54, 55, 56]⟩] 9)).alloc (.cells #[.string z] 9)) rfl rfl (by go_simp) ⟨trivial, ?_⟩)
                have SPn2 := hid (SPn1.out.alloc (.cells #[.string z] 9))
                refine held_one 8 (by kernel_rfl) (op_wp rfl rfl (wp_append_lies _ (.tmp 41) (.tmp 47) 25 rfl (w.heap.size + 2) 9 i0 (.string ⟨#[]⟩) 1 16 Tryz.underlying25 hi hz0 hz1 hz2 rfl (by decide) (.slice a5 ss.length c5) ss.length _ (by go_simp) SPn2.out.row ⟨w7.heap.size + 1, 0, none⟩ 1 1 [.string z] (by go_simp) rfl (one_new (w7.alloc (.cells #[.string ⟨#[]⟩, .string ⟨#[120]⟩, .string ⟨#[49, 50, 51, 52, 53, 54, 55, 56]⟩] 9)) z (w7.heap.size + 1) (by simp)) (by simp [Value.oneCell']) (by decide) (by unfold maxLen; omega) (by omega) SPn2.out.room _ rfl ?_))
                intro g' cap' w8 hown8 hgrow8 _ _
                obtain ⟨bx8, sp8⟩ := SPn2.out.append (ss' := ss ++ [z]) hgrow8 (by simpa using hown8)
                have d1 := bx8.c1
                have df1 := bx8.fz 1
                have SPE := hid sp8
                clear bx8 sp8 hown8 hgrow8
                refine ⟨trivial, held_one 9 (by kernel_rfl) (op_value (v := .pointer (some ⟨b5, 1, none⟩)) (w' := w8) rfl rfl (by go_simp) ⟨trivial, held_one 10 (by kernel_rfl) (op_skip (w' := w8.setCell ⟨b5, 1, none⟩ (.slice (some ⟨g', 0, none⟩) (ss.length + 1) cap')) rfl rfl (by go_simp) ⟨trivial, wpAnyH_done (by kernel_rfl) ?_ _⟩)⟩)⟩
                have z0 := SPE.out.box.c0
                have z1 := SPE.out.box.c1
                have zr0 := SPE.out.res.c0
                have zrf := SPE.out.res.fz 0
                have y8 := LBox.set0 n SPE.out.res
                have t1 := y8.c1
                have tf1 := y8.fz 1
                have y9 := y8.set1 (.slice (some ⟨g', 0, none⟩) (ss.length + 1) cap')
                have HF := hid (SPE.out.fin n (.slice (some ⟨g', 0, none⟩) (ss.length + 1) cap'))
                clear y8
                go_simp
                go_wp2
                exact bodyPost_ret (v := .agg #[.int .i64 n, .slice (some ⟨g', 0, none⟩) (ss.length + 1) cap']) (by simp [results, Tryz.results44, go_sem, y9.c0, y9.c1]) rfl ⟨n, _, ss ++ [z], rfl, Reads.of_row HF.out.1, by simp; omega, HZ3.out, HF.out.2⟩
              · have SPn2 := hid (SPn1.out.alloc (.cells #[.string z] 9))
                have u2 := SPn2.out.box.c1
                refine held_one 1 (by kernel_rfl) (op_value (v := .slice a5 ss.length c5) (w' := ((w7.alloc (.cells #[.string ⟨#[]⟩, .string ⟨#[120]⟩, .string ⟨#[49, 50, 51, 52, 53, 54, 55, 56]⟩] 9)).alloc (.cells #[.string z] 9))) rfl rfl (by go_simp) ⟨trivial, ?_⟩)
                refine held_one 8 (by kernel_rfl) (op_wp rfl rfl (wp_append_lies _ (.tmp 41) (.tmp 47) 25 rfl (w.heap.size + 2) 9 i0 (.string ⟨#[]⟩) 1 16 Tryz.underlying25 hi hz0 hz1 hz2 rfl (by decide) (.slice a5 ss.length c5) ss.length _ (by go_simp) SPn2.out.row ⟨w7.heap.size + 1, 0, none⟩ 1 1 [.string z] (by go_simp) rfl (one_new (w7.alloc (.cells #[.string ⟨#[]⟩, .string ⟨#[120]⟩, .string ⟨#[49, 50, 51, 52, 53, 54, 55, 56]⟩] 9)) z (w7.heap.size + 1) (by simp)) (by simp [Value.oneCell']) (by decide) (by unfold maxLen; omega) (by omega) SPn2.out.room _ rfl ?_))
                intro g' cap' w8 hown8 hgrow8 _ _
                obtain ⟨bx8, sp8⟩ := SPn2.out.append (ss' := ss ++ [z]) hgrow8 (by simpa using hown8)
                have d1 := bx8.c1
                have df1 := bx8.fz 1
                have SPE := hid sp8
                clear bx8 sp8 hown8 hgrow8
                refine ⟨trivial, held_one 9 (by kernel_rfl) (op_value (v := .pointer (some ⟨b5, 1, none⟩)) (w' := w8) rfl rfl (by go_simp) ⟨trivial, held_one 10 (by kernel_rfl) (op_skip (w' := w8.setCell ⟨b5, 1, none⟩ (.slice (some ⟨g', 0, none⟩) (ss.length + 1) cap')) rfl rfl (by go_simp) ⟨trivial, wpAnyH_done (by kernel_rfl) ?_ _⟩)⟩)⟩
                have z0 := SPE.out.box.c0
                have z1 := SPE.out.box.c1
                have zr0 := SPE.out.res.c0
                have zrf := SPE.out.res.fz 0
                have y8 := LBox.set0 n SPE.out.res
                have t1 := y8.c1
                have tf1 := y8.fz 1
                have y9 := y8.set1 (.slice (some ⟨g', 0, none⟩) (ss.length + 1) cap')
                have HF := hid (SPE.out.fin n (.slice (some ⟨g', 0, none⟩) (ss.length + 1) cap'))
                clear y8
                go_simp
                go_wp2
                exact bodyPost_ret (v := .agg #[.int .i64 n, .slice (some ⟨g', 0, none⟩) (ss.length + 1) cap']) (by simp [results, Tryz.results44, go_sem, y9.c0, y9.c1]) rfl ⟨n, _, ss ++ [z], rfl, Reads.of_row HF.out.1, by simp; omega, HZ3.out, HF.out.2⟩
      · have e0 := SP6.out.box.c0
        have e1 := SP6.out.box.c1
        have ef1 := SP6.out.box.fz 1
        have r0 := SP6.out.res.c0
        have rf0 := SP6.out.res.fz 0
        by_cases hl1 : 0 < ss.length
        · have hl1' : (0 : Int) < (ss.length : Int) := by omega
          obtain ⟨_, _, e5, hg5⟩ := row_form SP6.out.row
          simp only [Value.slice.injEq] at e5
          obtain ⟨rfl, _, rfl⟩ := e5
          obtain ⟨g, rfl, hgl⟩ := hg5 (by omega)
          obtain ⟨hcl, hcells⟩ := row_capcells SP6.out.row
          have hcap : (ss.length : Int) ≤ (c5 : Int) := by omega
          clear hg5
          by_cases hc1 : c5 = 1
          · subst hc1
            have SQ := hid (SP6.out.cut (.slice (some ⟨g, 0, none⟩) 0 0))
            have z0 := SQ.out.1.c0
            have z1 := SQ.out.1.c1
            have zr0 := SQ.out.2.1.c0
            have zrf := SQ.out.2.1.fz 0
            have y8 : LBox ((w6.setCell ⟨b5, 1, none⟩ (.slice (some ⟨g, 0, none⟩) 0 0)).setCell ⟨w.heap.size + 1, 0, none⟩ (.int .i64 n)) (w.heap.size + 1) n (.slice none 0 0) := LBox.set0 n SQ.out.2.1
            have t1 := y8.c1
            have tf1 := y8.fz 1
            have y9 := y8.set1 (.slice (some ⟨g, 0, none⟩) 0 0)
            have HF := hid (SQ.out.2.2 n (.slice (some ⟨g, 0, none⟩) 0 0))
            clear y8
            go_wp2
            refine bodyPost_ret (v := .agg #[.int .i64 n, .slice (some ⟨g, 0, none⟩) 0 0]) (by simp [results, Tryz.results44, go_sem, y9.c0, y9.c1]) rfl ⟨n, _, [], rfl, .inl ⟨rfl, some ⟨g, 0, none⟩, 0, rfl⟩, by simp, by simp, HF.out.2⟩
          · have hc1' : ¬ ((c5 : Int) = 1) := by omega
            have hc2 : (1 : Int) < (c5 : Int) := by omega
            have SQ := hid (SP6.out.cut (.slice (some ⟨g, 1, none⟩) (ss.length - 1) (c5 - 1)))
            have z0 := SQ.out.1.c0
            have z1 := SQ.out.1.c1
            have zr0 := SQ.out.2.1.c0
            have zrf := SQ.out.2.1.fz 0
            have y8 : LBox ((w6.setCell ⟨b5, 1, none⟩ (.slice (some ⟨g, 1, none⟩) (ss.length - 1) (c5 - 1))).setCell ⟨w.heap.size + 1, 0, none⟩ (.int .i64 n)) (w.heap.size + 1) n (.slice none 0 0) := LBox.set0 n SQ.out.2.1
            have t1 := y8.c1
            have tf1 := y8.fz 1
            have y9 := y8.set1 (.slice (some ⟨g, 1, none⟩) (ss.length - 1) (c5 - 1))
            have HF := hid (SQ.out.2.2 n (.slice (some ⟨g, 1, none⟩) (ss.length - 1) (c5 - 1)))
            clear y8
            go_wp2
            refine bodyPost_ret (v := .agg #[.int .i64 n, .slice (some ⟨g, 1, none⟩) (ss.length - 1) (c5 - 1)]) (by simp [results, Tryz.results44, go_sem, y9.c0, y9.c1]) rfl ⟨n, _, ss.drop 1, rfl, ?_, by rw [List.length_drop]; omega, fun s hs => HZ.out s (List.mem_of_mem_drop hs), HF.out.2⟩
            obtain ⟨_, hcells2⟩ := row_capcells HF.out.1
            exact reads_drop2 1 (HF.out.1.lt g rfl).2 hcells2
        · have hl1' : ¬ ((0 : Int) < (ss.length : Int)) := by omega
          have y8 : LBox (w6.setCell ⟨w.heap.size + 1, 0, none⟩ (.int .i64 n)) (w.heap.size + 1) n (.slice none 0 0) := LBox.set0 n SP6.out.res
          have s1 := y8.c1
          have sf1 := y8.fz 1
          have y9 := y8.set1 (.slice a5 ss.length c5)
          have HF := hid (SP6.out.fin n (.slice a5 ss.length c5))
          clear y8
          go_wp2
          exact bodyPost_ret (v := .agg #[.int .i64 n, .slice a5 ss.length c5]) (by simp [results, Tryz.results44, go_sem, y9.c0, y9.c1]) rfl ⟨n, _, ss, rfl, Reads.of_row HF.out.1, by omega, HZ.out, HF.out.2⟩
      · go_wp2_with fail
        refine (HP.out (p + 1) 2 _ SP6.out.rd (by omega) (by omega) (by omega)).mono ?_
        rintro e w7 ⟨y, rfl, hy, hr7, hg7⟩
        have SP7 := hid (SP6.out.step hr7 hg7)
        clear hr7 hg7 SP6
        go_wp2
        go_loopw [] (fun wr => ∃ (ss' : List ByteArray) (a' : Option Addr) (c' : Nat), Spo w wr rb a nn cap bs (p + 1 + 1) b5 n n (.slice a' ss'.length c') (.slice av ss.length cv) ss' ∧ ss'.length ≤ 401 ∧ ∀ s ∈ ss', s.size ≤ 10000) (fun wr => 1000 - boxLen wr b5)
        case atStart => exact ⟨ss, a5, c5, SP7.out, by omega, HZ.out⟩
        case round =>
          clear SP7
          obtain ⟨ss', a', c', hsp, hl', hz'⟩ := hrel
          have SPE := hid hsp
          have HZ' := hid hz'
          have e1 := SPE.out.box.c1
          have ef1 := SPE.out.box.fz 1
          clear hsp hz'
          by_cases hlt' : ss'.length < 375 + y
          · have hlt'' : (ss'.length : Int) < 375 + (y : Int) := by omega
            have hal := SPE.out.rd.lt
            have hsz8 : w.heap.size + 2 ≤ wr.heap.size := by have := SPE.out.ge; have := SPE.out.box.lt; omega
            go_wp2_with (at_builtin; refine wpList_append_own _ rfl _ _ 25 rfl (w.heap.size + 2) 9 i0 (.string ⟨#[]⟩) 1 16 Tryz.underlying25 hi hz0 hz1 hz2 rfl (by decide) _ _ _ rfl (SPE.out.row.alloc _) ⟨_, 0, none⟩ 1 1 [.string ⟨#[49, 50, 51, 52, 53, 54, 55, 56]⟩] rfl rfl (cell_one_new _ _ _) (by simp [Value.oneCell']) (by unfold maxLen; omega) (by omega) (by simp; omega) ?_; intro v' w8 hown' hgrow _; obtain ⟨a2, c2, rfl, _⟩ := row_form hown'; obtain ⟨bx8, sp8⟩ := (SPE.out.alloc (.cells #[.string ⟨#[49, 50, 51, 52, 53, 54, 55, 56]⟩] 9)).append (ss' := ss' ++ [⟨#[49, 50, 51, 52, 53, 54, 55, 56]⟩]) hgrow (by simpa using hown'); have d1 := bx8.c1; have df1 := bx8.fz 1; have SP8 := hid sp8; clear bx8 sp8 hown' hgrow)
            have hk8 := boxLen_of SP8.out.box
            have hk := boxLen_of SPE.out.box
            rw [hk8, hk]
            refine ⟨⟨ss' ++ [⟨#[49, 50, 51, 52, 53, 54, 55, 56]⟩], a2, c2, by simpa using SP8.out, by simp; omega, fun s hs => ?_⟩, by omega⟩
            rcases List.mem_append.1 hs with h | h
            · exact HZ'.out s h
            · simp only [List.mem_cons, List.not_mem_nil, or_false] at h
              rw [h]; decide
          · have hlt'' : ¬ ((ss'.length : Int) < 375 + (y : Int)) := by omega
            have z0 := SPE.out.box.c0
            have z1 := SPE.out.box.c1
            have zr0 := SPE.out.res.c0
            have zrf := SPE.out.res.fz 0
            have y8 := LBox.set0 n SPE.out.res
            have t1 := y8.c1
            have tf1 := y8.fz 1
            have y9 := y8.set1 (.slice a' ss'.length c')
            have HF := hid (SPE.out.fin n (.slice a' ss'.length c'))
            clear y8
            go_wp2
            exact bodyPost_ret (v := .agg #[.int .i64 n, (.slice a' ss'.length c')]) (by simp [results, Tryz.results44, go_sem, y9.c0, y9.c1]) rfl (by first | exact ⟨n, _, ss', rfl, Reads.of_row HF.out.1, by omega, HZ'.out, HF.out.2⟩ | exact ⟨n, _, rfl, ss', Reads.of_row HF.out.1, by omega, HZ'.out, HF.out.2⟩)
      · have e0 := SP6.out.box.c0
        have e1 := SP6.out.box.c1
        have r0 := SP6.out.res.c0
        have rf0 := SP6.out.res.fz 0
        by_cases hl1 : 1 < ss.length
        · have hl1' : (1 : Int) < (ss.length : Int) := by omega
          obtain ⟨_, _, e5, hg5⟩ := row_form SP6.out.row
          simp only [Value.slice.injEq] at e5
          obtain ⟨rfl, _, rfl⟩ := e5
          obtain ⟨g, rfl, hgl⟩ := hg5 (by omega)
          have q0 := SP6.out.row.cellAt 0 (by omega)
          have q1 := SP6.out.row.cellAt 1 (by omega)
          have qf := SP6.out.row.frozenAt 0
          have q0' : w6.cell? ⟨g, 0, none⟩ = some (.string (ss.getD 0 ByteArray.empty)) := by rw [q0]; simp [show 0 < ss.length by omega]
          have q1' : w6.cell? ⟨g, 1, none⟩ = some (.string (ss.getD 1 ByteArray.empty)) := by rw [q1]; simp [hl1]
          have SP7 := hid (SP6.out.put0 (ss.getD 1 ByteArray.empty))
          rw [List.length_set] at SP7
          have HS1 : Hid (∀ s ∈ ss.set 0 (ss.getD 1 ByteArray.empty), s.size ≤ 10000) := fun s hs => by
            rcases List.mem_or_eq_of_mem_set hs with h | h
            · exact HZ.out s h
            · rw [h, List.getD_eq_getElem?_getD, List.getElem?_eq_getElem hl1]; exact HZ.out _ (List.getElem_mem hl1)
          generalize ss.getD 0 ByteArray.empty = s0 at *
          generalize ss.getD 1 ByteArray.empty = s1 at *
          have z0 := SP7.out.box.c0
          have z1 := SP7.out.box.c1
          have zr0 := SP7.out.res.c0
          have zrf := SP7.out.res.fz 0
          have y8 : LBox ((w6.setCell ⟨g, 0, none⟩ (.string s1)).setCell ⟨w.heap.size + 1, 0, none⟩ (.int .i64 n)) (w.heap.size + 1) n (.slice none 0 0) := LBox.set0 n SP7.out.res
          have t1 := y8.c1
          have tf1 := y8.fz 1
          have y9 := y8.set1 (.slice (some ⟨g, 0, none⟩) ss.length c5)
          have HF := hid (SP7.out.fin n (.slice (some ⟨g, 0, none⟩) ss.length c5))
          clear q0 q1 y8 hgl hg5
          go_wp2_with fail
          go_region
          all_goals
            go_wp2
            exact bodyPost_ret (v := .agg #[.int .i64 n, .slice (some ⟨g, 0, none⟩) ss.length c5]) (by simp [results, Tryz.results44, go_sem, y9.c0, y9.c1]) rfl ⟨n, .slice (some ⟨g, 0, none⟩) ss.length c5, ss.set 0 s1, rfl, Reads.of_row (base := w.heap.size + 2) HF.out.1, by rw [List.length_set]; omega, HS1.out, grown_drew HF.out.2⟩
        · have hl1' : ¬ ((1 : Int) < (ss.length : Int)) := by omega
          have y8 : LBox (w6.setCell ⟨w.heap.size + 1, 0, none⟩ (.int .i64 n)) (w.heap.size + 1) n (.slice none 0 0) := LBox.set0 n SP6.out.res
          have s1 := y8.c1
          have sf1 := y8.fz 1
          have y9 := y8.set1 (.slice a5 ss.length c5)
          have HF := hid (SP6.out.fin n (.slice a5 ss.length c5))
          clear y8
          go_wp2
          exact bodyPost_ret (v := .agg #[.int .i64 n, .slice a5 ss.length c5]) (by simp [results, Tryz.results44, go_sem, y9.c0, y9.c1]) rfl ⟨n, _, ss, rfl, Reads.of_row HF.out.1, by omega, HZ.out, HF.out.2⟩
  · have h4d : LBox wB.drew (w.heap.size + 1) 0 (.slice none 0 0) := H4.out
    have hb7 : LBox (wB.drew.alloc (.cells #[.int .i64 0, .slice none 0 0] 27)) wB.heap.size 0 (.slice none 0 0) := World.alloc_heap_new wB.drew _
    have hs1 : (wB.drew.alloc (.cells #[.int .i64 0, .slice none 0 0] 27)).heap.size = wB.heap.size + 1 := World.size_alloc _ _
    have hg1 : w.grownBy ((wB.drew.alloc (.cells #[.int .i64 0, .slice none 0 0] 27)).alloc (.cells #[] 9)) (some rb) := grown_alloc (grown_alloc (grown_drew HG.out) _) _
    have hr1 : Rd ((wB.drew.alloc (.cells #[.int .i64 0, .slice none 0 0] 27)).alloc (.cells #[] 9)) rb a nn cap bs p := HR.out.keep ((((Below.refl (rb + 1) wB).drew).alloc (by show rb + 1 ≤ wB.heap.size; omega) _).alloc (by rw [hs1]; omega) _)
    have hE2 : ((wB.drew.alloc (.cells #[.int .i64 0, .slice none 0 0] 27)).alloc (.cells #[] 9)).ownsRow (w.heap.size + 2) 9 1 (.slice (some ⟨wB.heap.size + 1, 0, none⟩) 0 0) 0 [] := by
      have := World.ownsRow_made (base := w.heap.size + 2) (e := 9) (size := 1) (wB.drew.alloc (.cells #[.int .i64 0, .slice none 0 0] 27)) #[] 0 (by rw [hs1]; omega) (by simp [maxLen]) rfl
      rwa [hs1] at this
    refine held_one 2 (by kernel_rfl) (op_value (v := .slice (some ⟨wB.heap.size + 1, 0, none⟩) 0 0) (w' := (wB.drew.alloc (.cells #[.int .i64 0, .slice none 0 0] 27)).alloc (.cells #[] 9)) rfl rfl (by go_simp) ⟨(b3.alloc _).alloc _, ?_⟩)
    refine held_one 5 (by kernel_rfl) (op_wp rfl rfl (wp_append_rows (.tmp 9) (.tmp 11) rfl (w.heap.size + 2) _ 0 [] (by go_simp) hE2 b2 (.slice av ss.length cv) ss.length _ (by go_simp) ((HV.out.alloc _).alloc _) HONE.out (by omega) (by rw [World.size_alloc, hs1]; omega) ?_))
    intro v5 w5 hown5 hgr5
    obtain ⟨a5, c5, rfl, _⟩ := row_form hown5
    rw [Nat.zero_add, List.nil_append] at hown5
    have hgr : ((wB.drew.alloc (.cells #[.int .i64 0, .slice none 0 0] 27)).alloc (.cells #[] 9)).grownBy w5 (some (wB.heap.size + 1)) := hgr5
    have hS5 : LBox w5 w.heap.size n (.slice av ss.length cv) := ((hS0.alloc (.cells #[.int .i64 0, .slice none 0 0] 27)).alloc (.cells #[] 9)).grown hgr (by simp; omega)
    have HB5 := hid ((hb7.alloc (.cells #[] 9)).grown hgr (by simp))
    have HSPO := hid (HSP.out w5 wB.heap.size (.slice a5 ss.length c5) (hr1.grown2 hgr (by omega)) hS5 (((h4d.alloc (.cells #[.int .i64 0, .slice none 0 0] 27)).alloc (.cells #[] 9)).grown hgr (by simp; omega)) (grownBy_trans hg1 hgr (fun g e => .inr (by cases e; omega))) (by omega) HB5.out hown5)
    refine ⟨hS5, wpAnyH_take (i := 6) (v := .agg #[.int .i64 n, .slice a5 (0 + ss.length) c5]) rfl (by kernel_rfl) (by kernel_rfl) (by kernel_rfl) (fun _ _ _ h => h) (.inl ⟨rfl, fun w' hS => by go_simp⟩) hS5 ?_⟩
    rw [Nat.zero_add]
    have bn : LBox w5 (wB.heap.size) 0 (.slice none 0 0) := HB5.out
    have e0 := bn.c0
    have e1 := bn.c1
    have ef0 := bn.fz 0
    have bs0 : LBox (w5.setCell ⟨wB.heap.size, 0, none⟩ (.int .i64 n)) (wB.heap.size) n (.slice none 0 0) := LBox.set0 n bn
    have g1 := bs0.c1
    have gf1 := bs0.fz 1
    have hS8 := HSPO.out.arg
    refine held_one 8 (by kernel_rfl) (op_skip (w' := (w5.setCell ⟨wB.heap.size, 0, none⟩ (.int .i64 n)).setCell ⟨wB.heap.size, 1, none⟩ (.slice a5 ss.length c5)) rfl rfl (by go_simp) ⟨hS8, wpAnyH_done (by kernel_rfl) ?_ _⟩)
    clear bn e0 e1 ef0 bs0 g1 gf1 hS8 HB5
    generalize hW8 : (w5.setCell ⟨wB.heap.size, 0, none⟩ (.int .i64 n)).setCell ⟨wB.heap.size, 1, none⟩ (.slice a5 ss.length c5) = W8 at *
    generalize hB8 : wB.heap.size = b5 at *
    clear hW8 hB8
    clear hS5 hgr hown5 hgr5 hb7 hg1 hr1 h4d hs1 hE2
    have hv5l : True := trivial
    clear hE hSE hVE HSP hS0 c0 c1 HR HV HG H3 H4
    go_simp
    go_wp2_with fail
    refine (HP.out p 5 _ HSPO.out.rd (by omega) (by omega) (by omega)).mono ?_
    rintro e w6 ⟨x, rfl, hx, hr6, hg6⟩
    have SP6 := hid (HSPO.out.step hr6 hg6)
    clear hr6 hg6 HSPO
    have hx5 : x = 0 ∨ x = 1 ∨ x = 2 ∨ x = 3 ∨ x = 4 := by omega
    rcases hx5 with rfl | rfl | rfl | rfl | rfl
    · have hlt6 := SP6.out.rd.lt
      have hn1 : IntKind.i64.wrap (n + 1) = n + 1 := by rw [IntKind.wrap_i64]; omega
      have k0 := SP6.out.arg.c0
      have HRA := hid (SP6.out.alloc (.cells #[.int .i64 (-1), .int .i64 0, .int .i64 3000, .int .i64 3001, .int .i64 (n + 1)] 3)).drew
      have HRB := hid SP6.out.drew
      have HTA := hid fun (w4 : World) (x : Nat) (hx : x < 5) (hg : (w6.alloc (.cells #[.int .i64 (-1), .int .i64 0, .int .i64 3000, .int .i64 3001, .int .i64 (n + 1)] 3)).drew.grownBy w4 (some rb)) => five_kept2 (w := w6) hg hlt6 hx
      have HTB := hid fun (w4 : World) (x : Nat) (hx : x < 5) => five_new2 w4 (-1) 0 3000 3001 (n + 1) hx
      go_wp2_with fail
      go_region_with (go_at_call 19; first
        | (refine (HP.out (p + 1) 5 _ HRA.out.rd (by omega) (by omega) (by omega)).mono ?_; rintro e w7 ⟨x4, rfl, hx4, hr7, hg7⟩; obtain ⟨z, hz⟩ := HTA.out w7 x4 (by omega) hg7; have SP7 := hid (HRA.out.step hr7 hg7); have q0 := SP7.out.box.c0; have qf := SP7.out.box.fz 0; have k7 := SP7.out.arg.c0)
        | (refine (HP.out (p + 1) 5 _ HRB.out.rd (by omega) (by omega) (by omega)).mono ?_; rintro e w7 ⟨x4, rfl, hx4, hr7, hg7⟩; obtain ⟨z, hz⟩ := HTB.out w7 x4 (by omega); have SP7 := hid ((HRB.out.step hr7 hg7).alloc (.cells #[.int .i64 (-1), .int .i64 0, .int .i64 3000, .int .i64 3001, .int .i64 (n + 1)] 3)); have q0 := SP7.out.box.c0; have qf := SP7.out.box.fz 0; have k7 := (HRB.out.step hr7 hg7).arg.c0))
      all_goals
        have SPE := hid (SP7.out.size z)
        have z0 := SPE.out.box.c0
        have z1 := SPE.out.box.c1
        have zr0 := SPE.out.res.c0
        have zrf := SPE.out.res.fz 0
        have y8 := LBox.set0 z SPE.out.res
        have t1 := y8.c1
        have tf1 := y8.fz 1
        have y9 := y8.set1 (.slice a5 ss.length c5)
        have HF := hid (SPE.out.fin z (.slice a5 ss.length c5))
        clear y8
        go_wp2
        exact bodyPost_ret (v := .agg #[.int .i64 z, (.slice a5 ss.length c5)]) (by simp [results, Tryz.results44, go_sem, y9.c0, y9.c1]) rfl ⟨z, _, ss, rfl, Reads.of_row HF.out.1, by omega, HZ.out, HF.out.2⟩
    · have hlt6 := SP6.out.rd.lt
      have q1 := SP6.out.box.c1
      have HRB := hid SP6.out.drew
      go_wp2_with fail
      refine wp_region_held (S := fun _ => True) (by kernel_rfl) ?_
      change wpAnyH _ _ _ _ _ _ _ _ (World.drew _)
      refine wpAnyH_take (i := 0) (v := .pointer (some ⟨b5, 1, none⟩)) rfl (by kernel_rfl) (by kernel_rfl) (by kernel_rfl) (fun _ _ _ h => h) (.inl ⟨rfl, fun w' _ => by go_simp⟩) trivial ?_
      refine wpAnyH_take (i := 3) (v := .pointer (some ⟨rb, 0, none⟩)) rfl (by kernel_rfl) (by kernel_rfl) (by kernel_rfl) (fun _ _ _ h => h) (.inl ⟨rfl, fun w' _ => by go_simp⟩) trivial ?_
      have hec := enters_of Tryz.func19 (by kernel_rfl) rfl
      have v1 := fun o => (SP6.out.box.alloc o).c1
      refine held_three 1 2 4 (by kernel_rfl) (op_value (v := .slice a5 ss.length c5) (w' := w6.drew) rfl rfl (by go_simp) ⟨trivial, ?_⟩) (op_value (v := .slice (some ⟨w6.heap.size, 0, none⟩) 3 3) (w' := w6.drew.alloc (.cells #[.string ⟨#[]⟩, .string ⟨#[120]⟩, .string ⟨#[49, 50, 51, 52, 53, 54, 55, 56]⟩] 9)) rfl rfl (by go_simp) ⟨trivial, ?_⟩) (op_calls (f := 19) (args := #[.pointer (some ⟨rb, 0, none⟩), .int .i64 3]) rfl rfl (by go_simp) (HP.out (p + 1) 3 _ HRB.out.rd (by omega) (by omega) (by omega)) ?_)
      · refine held_two 2 4 (by kernel_rfl) (op_value (v := .slice (some ⟨w6.heap.size, 0, none⟩) 3 3) (w' := w6.drew.alloc (.cells #[.string ⟨#[]⟩, .string ⟨#[120]⟩, .string ⟨#[49, 50, 51, 52, 53, 54, 55, 56]⟩] 9)) rfl rfl (by go_simp) ⟨trivial, ?_⟩) (op_calls (f := 19) (args := #[.pointer (some ⟨rb, 0, none⟩), .int .i64 3]) rfl rfl (by go_simp) (HP.out (p + 1) 3 _ HRB.out.rd (by omega) (by omega) (by omega)) ?_)
        · have SPn0 := hid (HRB.out.alloc (.cells #[.string ⟨#[]⟩, .string ⟨#[120]⟩, .string ⟨#[49, 50, 51, 52, 53, 54, 55, 56]⟩] 9))
          have uSPn0 := SPn0.out.box.c1
          refine held_one 4 (by kernel_rfl) (op_calls (f := 19) (args := #[.pointer (some ⟨rb, 0, none⟩), .int .i64 3]) rfl rfl (by go_simp) (HP.out (p + 1) 3 _ SPn0.out.rd (by omega) (by omega) (by omega)) ?_)
          rintro e w7 ⟨x4, rfl, hx4, hr7, hg7⟩
          have hx4' : (x4 : Int) < 3 := by omega
          have SPn1 := hid (SPn0.out.step hr7 hg7)
          obtain ⟨z, hzs, hzc⟩ := three_kept (x := x4) hg7 hlt6 (by omega)
          have HZ3 : Hid (∀ s ∈ ss ++ [z], s.size ≤ 10000) := sizes_app HZ.out (by omega)
          have hs71 := hg7.size
          clear hr7 hg7
          refine ⟨_, rfl, trivial, ?_⟩
          refine wpAnyH_take (i := 5) (v := .pointer (some ⟨w6.heap.size, x4, none⟩)) rfl (by kernel_rfl) (by kernel_rfl) (by kernel_rfl) (fun _ _ _ h => h) (.inl ⟨rfl, fun w' _ => by go_simp⟩) trivial ?_
          refine held_one 6 (by kernel_rfl) (op_value (v := .string z) (w' := w7) rfl rfl (by go_simp) ⟨trivial, ?_⟩)
          refine held_one 7 (by kernel_rfl) (op_value (v := .slice (some ⟨w7.heap.size, 0, none⟩) 1 1) (w' := w7.alloc (.cells #[.string z] 9)) rfl rfl (by go_simp) ⟨trivial, ?_⟩)
          have SPn2 := hid (SPn1.out.alloc (.cells #[.string z] 9))
          refine held_one 8 (by kernel_rfl) (op_wp rfl rfl (wp_append_lies _ (.tmp 41) (.tmp 47) 25 rfl (w.heap.size + 2) 9 i0 (.string ⟨#[]⟩) 1 16 Tryz.underlying25 hi hz0 hz1 hz2 rfl (by decide) (.slice a5 ss.length c5) ss.length _ (by go_simp) SPn2.out.row ⟨w7.heap.size, 0, none⟩ 1 1 [.string z] (by go_simp) rfl (one_new w7 z w7.heap.size (by simp)) (by simp [Value.oneCell']) (by decide) (by unfold maxLen; omega) (by omega) SPn2.out.room _ rfl ?_))
          intro g' cap' w8 hown8 hgrow8 _ _
          obtain ⟨bx8, sp8⟩ := SPn2.out.append (ss' := ss ++ [z]) hgrow8 (by simpa using hown8)
          have d1 := bx8.c1
          have df1 := bx8.fz 1
          have SPE := hid sp8
          clear bx8 sp8 hown8 hgrow8
          refine ⟨trivial, held_one 9 (by kernel_rfl) (op_value (v := .pointer (some ⟨b5, 1, none⟩)) (w' := w8) rfl rfl (by go_simp) ⟨trivial, held_one 10 (by kernel_rfl) (op_skip (w' := w8.setCell ⟨b5, 1, none⟩ (.slice (some ⟨g', 0, none⟩) (ss.length + 1) cap')) rfl rfl (by go_simp) ⟨trivial, wpAnyH_done (by kernel_rfl) ?_ _⟩)⟩)⟩
          have z0 := SPE.out.box.c0
          have z1 := SPE.out.box.c1
          have zr0 := SPE.out.res.c0
          have zrf := SPE.out.res.fz 0
          have y8 := LBox.set0 n SPE.out.res
          have t1 := y8.c1
          have tf1 := y8.fz 1
          have y9 := y8.set1 (.slice (some ⟨g', 0, none⟩) (ss.length + 1) cap')
          have HF := hid (SPE.out.fin n (.slice (some ⟨g', 0, none⟩) (ss.length + 1) cap'))
          clear y8
          go_simp
          go_wp2
          exact bodyPost_ret (v := .agg #[.int .i64 n, .slice (some ⟨g', 0, none⟩) (ss.length + 1) cap']) (by simp [results, Tryz.results44, go_sem, y9.c0, y9.c1]) rfl ⟨n, _, ss ++ [z], rfl, Reads.of_row HF.out.1, by simp; omega, HZ3.out, HF.out.2⟩
        · rintro e w7 ⟨x4, rfl, hx4, hr7, hg7⟩
          have hx4' : (x4 : Int) < 3 := by omega
          have SPn0 := hid (HRB.out.step hr7 hg7)
          have hs70 := hg7.size
          clear hr7 hg7
          refine ⟨_, rfl, trivial, ?_⟩
          refine held_one 2 (by kernel_rfl) (op_value (v := .slice (some ⟨w7.heap.size, 0, none⟩) 3 3) (w' := w7.alloc (.cells #[.string ⟨#[]⟩, .string ⟨#[120]⟩, .string ⟨#[49, 50, 51, 52, 53, 54, 55, 56]⟩] 9)) rfl rfl (by go_simp) ⟨trivial, ?_⟩)
          have SPn1 := hid (SPn0.out.alloc (.cells #[.string ⟨#[]⟩, .string ⟨#[120]⟩, .string ⟨#[49, 50, 51, 52, 53, 54, 55, 56]⟩] 9))
          have uSPn1 := SPn1.out.box.c1
          obtain ⟨z, hzs, hzc⟩ := three_new w7 (x := x4) (by omega)
          have HZ3 : Hid (∀ s ∈ ss ++ [z], s.size ≤ 10000) := sizes_app HZ.out (by omega)
          refine wpAnyH_take (i := 5) (v := .pointer (some ⟨w7.heap.size, x4, none⟩)) rfl (by kernel_rfl) (by kernel_rfl) (by kernel_rfl) (fun _ _ _ h => h) (.inl ⟨rfl, fun w' _ => by go_simp⟩) trivial ?_
          refine held_one 6 (by kernel_rfl) (op_value (v := .string z) (w' := (w7.alloc (.cells #[.string ⟨#[]⟩, .string ⟨#[120]⟩, .string ⟨#[49, 50, 51, 52, 53, 54, 55, 56]⟩] 9))) rfl rfl (by go_simp) ⟨trivial, ?_⟩)
          refine held_one 7 (by kernel_rfl) (op_value (v := .slice (some ⟨w7.heap.size + 1, 0, none⟩) 1 1) (w' := (w7.alloc (.cells #[.string ⟨#[]⟩, .string ⟨#[120]⟩, .string ⟨#[49, 50, 51, 52, 53, 54, 55, 56]⟩] 9)).alloc (.cells #[.string z] 9)) rfl rfl (by go_simp) ⟨trivial, ?_⟩)
          have SPn2 := hid (SPn1.out.alloc (.cells #[.string z] 9))
          refine held_one 8 (by kernel_rfl) (op_wp rfl rfl (wp_append_lies _ (.tmp 41) (.tmp 47) 25 rfl (w.heap.size + 2) 9 i0 (.string ⟨#[]⟩) 1 16 Tryz.underlying25 hi hz0 hz1 hz2 rfl (by decide) (.slice a5 ss.length c5) ss.length _ (by go_simp) SPn2.out.row ⟨w7.heap.size + 1, 0, none⟩ 1 1 [.string z] (by go_simp) rfl (one_new (w7.alloc (.cells #[.string ⟨#[]⟩, .string ⟨#[120]⟩, .string ⟨#[49, 50, 51, 52, 53, 54, 55, 56]⟩] 9)) z (w7.heap.size + 1) (by simp)) (by simp [Value.oneCell']) (by decide) (by unfold maxLen; omega) (by omega) SPn2.out.room _ rfl ?_))
          intro g' cap' w8 hown8 hgrow8 _ _
          obtain ⟨bx8, sp8⟩ := SPn2.out.append (ss' := ss ++ [z]) hgrow8 (by simpa using hown8)
          have d1 := bx8.c1
          have df1 := bx8.fz 1
          have SPE := hid sp8
          clear bx8 sp8 hown8 hgrow8
          refine ⟨trivial, held_one 9 (by kernel_rfl) (op_value (v := .pointer (some ⟨b5, 1, none⟩)) (w' := w8) rfl rfl (by go_simp) ⟨trivial, held_one 10 (by kernel_rfl) (op_skip (w' := w8.setCell ⟨b5, 1, none⟩ (.slice (some ⟨g', 0, none⟩) (ss.length + 1) cap')) rfl rfl (by go_simp) ⟨trivial, wpAnyH_done (by kernel_rfl) ?_ _⟩)⟩)⟩
          have z0 := SPE.out.box.c0
          have z1 := SPE.out.box.c1
          have zr0 := SPE.out.res.c0
          have zrf := SPE.out.res.fz 0
          have y8 := LBox.set0 n SPE.out.res
          have t1 := y8.c1
          have tf1 := y8.fz 1
          have y9 := y8.set1 (.slice (some ⟨g', 0, none⟩) (ss.length + 1) cap')
          have HF := hid (SPE.out.fin n (.slice (some ⟨g', 0, none⟩) (ss.length + 1) cap'))
          clear y8
          go_simp
          go_wp2
          exact bodyPost_ret (v := .agg #[.int .i64 n, .slice (some ⟨g', 0, none⟩) (ss.length + 1) cap']) (by simp [results, Tryz.results44, go_sem, y9.c0, y9.c1]) rfl ⟨n, _, ss ++ [z], rfl, Reads.of_row HF.out.1, by simp; omega, HZ3.out, HF.out.2⟩
      · have SPn0 := hid (HRB.out.alloc (.cells #[.string ⟨#[]⟩, .string ⟨#[120]⟩, .string ⟨#[49, 50, 51, 52, 53, 54, 55, 56]⟩] 9))
        have uSPn0 := SPn0.out.box.c1
        refine held_two 1 4 (by kernel_rfl) (op_value (v := .slice a5 ss.length c5) (w' := (w6.drew.alloc (.cells #[.string ⟨#[]⟩, .string ⟨#[120]⟩, .string ⟨#[49, 50, 51, 52, 53, 54, 55, 56]⟩] 9))) rfl rfl (by go_simp) ⟨trivial, ?_⟩) (op_calls (f := 19) (args := #[.pointer (some ⟨rb, 0, none⟩), .int .i64 3]) rfl rfl (by go_simp) (HP.out (p + 1) 3 _ SPn0.out.rd (by omega) (by omega) (by omega)) ?_)
        · refine held_one 4 (by kernel_rfl) (op_calls (f := 19) (args := #[.pointer (some ⟨rb, 0, none⟩), .int .i64 3]) rfl rfl (by go_simp) (HP.out (p + 1) 3 _ SPn0.out.rd (by omega) (by omega) (by omega)) ?_)
          rintro e w7 ⟨x4, rfl, hx4, hr7, hg7⟩
          have hx4' : (x4 : Int) < 3 := by omega
          have SPn1 := hid (SPn0.out.step hr7 hg7)
          obtain ⟨z, hzs, hzc⟩ := three_kept (x := x4) hg7 hlt6 (by omega)
          have HZ3 : Hid (∀ s ∈ ss ++ [z], s.size ≤ 10000) := sizes_app HZ.out (by omega)
          have hs71 := hg7.size
          clear hr7 hg7
          refine ⟨_, rfl, trivial, ?_⟩
          refine wpAnyH_take (i := 5) (v := .pointer (some ⟨w6.heap.size, x4, none⟩)) rfl (by kernel_rfl) (by kernel_rfl) (by kernel_rfl) (fun _ _ _ h => h) (.inl ⟨rfl, fun w' _ => by go_simp⟩) trivial ?_
          refine held_one 6 (by kernel_rfl) (op_value (v := .string z) (w' := w7) rfl rfl (by go_simp) ⟨trivial, ?_⟩)
          refine held_one 7 (by kernel_rfl) (op_value (v := .slice (some ⟨w7.heap.size, 0, none⟩) 1 1) (w' := w7.alloc (.cells #[.string z] 9)) rfl rfl (by go_simp) ⟨trivial, ?_⟩)
          have SPn2 := hid (SPn1.out.alloc (.cells #[.string z] 9))
          refine held_one 8 (by kernel_rfl) (op_wp rfl rfl (wp_append_lies _ (.tmp 41) (.tmp 47) 25 rfl (w.heap.size + 2) 9 i0 (.string ⟨#[]⟩) 1 16 Tryz.underlying25 hi hz0 hz1 hz2 rfl (by decide) (.slice a5 ss.length c5) ss.length _ (by go_simp) SPn2.out.row ⟨w7.heap.size, 0, none⟩ 1 1 [.string z] (by go_simp) rfl (one_new w7 z w7.heap.size (by simp)) (by simp [Value.oneCell']) (by decide) (by unfold maxLen; omega) (by omega) SPn2.out.room _ rfl ?_))
          intro g' cap' w8 hown8 hgrow8 _ _
          obtain ⟨bx8, sp8⟩ := SPn2.out.append (ss' := ss ++ [z]) hgrow8 (by simpa using hown8)
          have d1 := bx8.c1
          have df1 := bx8.fz 1
          have SPE := hid sp8
          clear bx8 sp8 hown8 hgrow8
          refine ⟨trivial, held_one 9 (by kernel_rfl) (op_value (v := .pointer (some ⟨b5, 1, none⟩)) (w' := w8) rfl rfl (by go_simp) ⟨trivial, held_one 10 (by kernel_rfl) (op_skip (w' := w8.setCell ⟨b5, 1, none⟩ (.slice (some ⟨g', 0, none⟩) (ss.length + 1) cap')) rfl rfl (by go_simp) ⟨trivial, wpAnyH_done (by kernel_rfl) ?_ _⟩)⟩)⟩
          have z0 := SPE.out.box.c0
          have z1 := SPE.out.box.c1
          have zr0 := SPE.out.res.c0
          have zrf := SPE.out.res.fz 0
          have y8 := LBox.set0 n SPE.out.res
          have t1 := y8.c1
          have tf1 := y8.fz 1
          have y9 := y8.set1 (.slice (some ⟨g', 0, none⟩) (ss.length + 1) cap')
          have HF := hid (SPE.out.fin n (.slice (some ⟨g', 0, none⟩) (ss.length + 1) cap'))
          clear y8
          go_simp
          go_wp2
          exact bodyPost_ret (v := .agg #[.int .i64 n, .slice (some ⟨g', 0, none⟩) (ss.length + 1) cap']) (by simp [results, Tryz.results44, go_sem, y9.c0, y9.c1]) rfl ⟨n, _, ss ++ [z], rfl, Reads.of_row HF.out.1, by simp; omega, HZ3.out, HF.out.2⟩
        · rintro e w7 ⟨x4, rfl, hx4, hr7, hg7⟩
          have hx4' : (x4 : Int) < 3 := by omega
          have SPn1 := hid (SPn0.out.step hr7 hg7)
          obtain ⟨z, hzs, hzc⟩ := three_kept (x := x4) hg7 hlt6 (by omega)
          have HZ3 : Hid (∀ s ∈ ss ++ [z], s.size ≤ 10000) := sizes_app HZ.out (by omega)
          have hs71 := hg7.size
          clear hr7 hg7
          refine ⟨_, rfl, trivial, ?_⟩
          have u1 := SPn1.out.box.c1
          refine wpAnyH_take (i := 5) (v := .pointer (some ⟨w6.heap.size, x4, none⟩)) rfl (by kernel_rfl) (by kernel_rfl) (by kernel_rfl) (fun _ _ _ h => h) (.inl ⟨rfl, fun w' _ => by go_simp⟩) trivial ?_
          refine held_two 1 6 (by kernel_rfl) (op_value (v := .slice a5 ss.length c5) (w' := w7) rfl rfl (by go_simp) ⟨trivial, ?_⟩) (op_value (v := .string z) (w' := w7) rfl rfl (by go_simp) ⟨trivial, ?_⟩)
          · refine held_one 6 (by kernel_rfl) (op_value (v := .string z) (w' := w7) rfl rfl (by go_simp) ⟨trivial, ?_⟩)
            refine held_one 7 (by kernel_rfl) (op_value (v := .slice (some ⟨w7.heap.size, 0, none⟩) 1 1) (w' := w7.alloc (.cells #[.string z] 9)) rfl rfl (by go_simp) ⟨trivial, ?_⟩)
            have SPn2 := hid (SPn1.out.alloc (.cells #[.string z] 9))
            refine held_one 8 (by kernel_rfl) (op_wp rfl rfl (wp_append_lies _ (.tmp 41) (.tmp 47) 25 rfl (w.heap.size + 2) 9 i0 (.string ⟨#[]⟩) 1 16 Tryz.underlying25 hi hz0 hz1 hz2 rfl (by decide) (.slice a5 ss.length c5) ss.length _ (by go_simp) SPn2.out.row ⟨w7.heap.size, 0, none⟩ 1 1 [.string z] (by go_simp) rfl (one_new w7 z w7.heap.size (by simp)) (by simp [Value.oneCell']) (by decide) (by unfold maxLen; omega) (by omega) SPn2.out.room _ rfl ?_))
            intro g' cap' w8 hown8 hgrow8 _ _
            obtain ⟨bx8, sp8⟩ := SPn2.out.append (ss' := ss ++ [z]) hgrow8 (by simpa using hown8)
            have d1 := bx8.c1
            have df1 := bx8.fz 1
            have SPE := hid sp8
            clear bx8 sp8 hown8 hgrow8
            refine ⟨trivial, held_one 9 (by kernel_rfl) (op_value (v := .pointer (some ⟨b5, 1, none⟩)) (w' := w8) rfl rfl (by go_simp) ⟨trivial, held_one 10 (by kernel_rfl) (op_skip (w' := w8.setCell ⟨b5, 1, none⟩ (.slice (some ⟨g', 0, none⟩) (ss.length + 1) cap')) rfl rfl (by go_simp) ⟨trivial, wpAnyH_done (by kernel_rfl) ?_ _⟩)⟩)⟩
            have z0 := SPE.out.box.c0
            have z1 := SPE.out.box.c1
            have zr0 := SPE.out.res.c0
            have zrf := SPE.out.res.fz 0
            have y8 := LBox.set0 n SPE.out.res
            have t1 := y8.c1
            have tf1 := y8.fz 1
            have y9 := y8.set1 (.slice (some ⟨g', 0, none⟩) (ss.length + 1) cap')
            have HF := hid (SPE.out.fin n (.slice (some ⟨g', 0, none⟩) (ss.length + 1) cap'))
            clear y8
            go_simp
            go_wp2
            exact bodyPost_ret (v := .agg #[.int .i64 n, .slice (some ⟨g', 0, none⟩) (ss.length + 1) cap']) (by simp [results, Tryz.results44, go_sem, y9.c0, y9.c1]) rfl ⟨n, _, ss ++ [z], rfl, Reads.of_row HF.out.1, by simp; omega, HZ3.out, HF.out.2⟩
          · refine held_two 1 7 (by kernel_rfl) (op_value (v := .slice a5 ss.length c5) (w' := w7) rfl rfl (by go_simp) ⟨trivial, ?_⟩) (op_value (v := .slice (some ⟨w7.heap.size, 0, none⟩) 1 1) (w' := w7.alloc (.cells #[.string z] 9)) rfl rfl (by go_simp) ⟨trivial, ?_⟩)
            · refine held_one 7 (by kernel_rfl) (op_value (v := .slice (some ⟨w7.heap.size, 0, none⟩) 1 1) (w' := w7.alloc (.cells #[.string z] 9)) rfl rfl (by go_simp) ⟨trivial, ?_⟩)
              have SPn2 := hid (SPn1.out.alloc (.cells #[.string z] 9))
              refine held_one 8 (by kernel_rfl) (op_wp rfl rfl (wp_append_lies _ (.tmp 41) (.tmp 47) 25 rfl (w.heap.size + 2) 9 i0 (.string ⟨#[]⟩) 1 16 Tryz.underlying25 hi hz0 hz1 hz2 rfl (by decide) (.slice a5 ss.length c5) ss.length _ (by go_simp) SPn2.out.row ⟨w7.heap.size, 0, none⟩ 1 1 [.string z] (by go_simp) rfl (one_new w7 z w7.heap.size (by simp)) (by simp [Value.oneCell']) (by decide) (by unfold maxLen; omega) (by omega) SPn2.out.room _ rfl ?_))
              intro g' cap' w8 hown8 hgrow8 _ _
              obtain ⟨bx8, sp8⟩ := SPn2.out.append (ss' := ss ++ [z]) hgrow8 (by simpa using hown8)
              have d1 := bx8.c1
              have df1 := bx8.fz 1
              have SPE := hid sp8
              clear bx8 sp8 hown8 hgrow8
              refine ⟨trivial, held_one 9 (by kernel_rfl) (op_value (v := .pointer (some ⟨b5, 1, none⟩)) (w' := w8) rfl rfl (by go_simp) ⟨trivial, held_one 10 (by kernel_rfl) (op_skip (w' := w8.setCell ⟨b5, 1, none⟩ (.slice (some ⟨g', 0, none⟩) (ss.length + 1) cap')) rfl rfl (by go_simp) ⟨trivial, wpAnyH_done (by kernel_rfl) ?_ _⟩)⟩)⟩
              have z0 := SPE.out.box.c0
              have z1 := SPE.out.box.c1
              have zr0 := SPE.out.res.c0
              have zrf := SPE.out.res.fz 0
              have y8 := LBox.set0 n SPE.out.res
              have t1 := y8.c1
              have tf1 := y8.fz 1
              have y9 := y8.set1 (.slice (some ⟨g', 0, none⟩) (ss.length + 1) cap')
              have HF := hid (SPE.out.fin n (.slice (some ⟨g', 0, none⟩) (ss.length + 1) cap'))
              clear y8
              go_simp
              go_wp2
              exact bodyPost_ret (v := .agg #[.int .i64 n, .slice (some ⟨g', 0, none⟩) (ss.length + 1) cap']) (by simp [results, Tryz.results44, go_sem, y9.c0, y9.c1]) rfl ⟨n, _, ss ++ [z], rfl, Reads.of_row HF.out.1, by simp; omega, HZ3.out, HF.out.2⟩
            · have SPn2 := hid (SPn1.out.alloc (.cells #[.string z] 9))
              have u2 := SPn2.out.box.c1
              refine held_one 1 (by kernel_rfl) (op_value (v := .slice a5 ss.length c5) (w' := (w7.alloc (.cells #[.string z] 9))) rfl rfl (by go_simp) ⟨trivial, ?_⟩)
              refine held_one 8 (by kernel_rfl) (op_wp rfl rfl (wp_append_lies _ (.tmp 41) (.tmp 47) 25 rfl (w.heap.size + 2) 9 i0 (.string ⟨#[]⟩) 1 16 Tryz.underlying25 hi hz0 hz1 hz2 rfl (by decide) (.slice a5 ss.length c5) ss.length _ (by go_simp) SPn2.out.row ⟨w7.heap.size, 0, none⟩ 1 1 [.string z] (by go_simp) rfl (one_new w7 z w7.heap.size (by simp)) (by simp [Value.oneCell']) (by decide) (by unfold maxLen; omega) (by omega) SPn2.out.room _ rfl ?_))
              intro g' cap' w8 hown8 hgrow8 _ _
              obtain ⟨bx8, sp8⟩ := SPn2.out.append (ss' := ss ++ [z]) hgrow8 (by simpa using hown8)
              have d1 := bx8.c1
              have df1 := bx8.fz 1
              have SPE := hid sp8
              clear bx8 sp8 hown8 hgrow8
              refine ⟨trivial, held_one 9 (by kernel_rfl) (op_value (v := .pointer (some ⟨b5, 1, none⟩)) (w' := w8) rfl rfl (by go_simp) ⟨trivial, held_one 10 (by kernel_rfl) (op_skip (w' := w8.setCell ⟨b5, 1, none⟩ (.slice (some ⟨g', 0, none⟩) (ss.length + 1) cap')) rfl rfl (by go_simp) ⟨trivial, wpAnyH_done (by kernel_rfl) ?_ _⟩)⟩)⟩
              have z0 := SPE.out.box.c0
              have z1 := SPE.out.box.c1
              have zr0 := SPE.out.res.c0
              have zrf := SPE.out.res.fz 0
              have y8 := LBox.set0 n SPE.out.res
              have t1 := y8.c1
              have tf1 := y8.fz 1
              have y9 := y8.set1 (.slice (some ⟨g', 0, none⟩) (ss.length + 1) cap')
              have HF := hid (SPE.out.fin n (.slice (some ⟨g', 0, none⟩) (ss.length + 1) cap'))
              clear y8
              go_simp
              go_wp2
              exact bodyPost_ret (v := .agg #[.int .i64 n, .slice (some ⟨g', 0, none⟩) (ss.length + 1) cap']) (by simp [results, Tryz.results44, go_sem, y9.c0, y9.c1]) rfl ⟨n, _, ss ++ [z], rfl, Reads.of_row HF.out.1, by simp; omega, HZ3.out, HF.out.2⟩
      · rintro e w7 ⟨x4, rfl, hx4, hr7, hg7⟩
        have hx4' : (x4 : Int) < 3 := by omega
        have SPn0 := hid (HRB.out.step hr7 hg7)
        have hs70 := hg7.size
        clear hr7 hg7
        refine ⟨_, rfl, trivial, ?_⟩
        have u0 := SPn0.out.box.c1
        refine held_two 1 2 (by kernel_rfl) (op_value (v := .slice a5 ss.length c5) (w' := w7) rfl rfl (by go_simp) ⟨trivial, ?_⟩) (op_value (v := .slice (some ⟨w7.heap.size, 0, none⟩) 3 3) (w' := w7.alloc (.cells #[.string ⟨#[]⟩, .string ⟨#[120]⟩, .string ⟨#[49, 50, 51, 52, 53, 54, 55, 56]⟩] 9)) rfl rfl (by go_simp) ⟨trivial, ?_⟩)
        · refine held_one 2 (by kernel_rfl) (op_value (v := .slice (some ⟨w7.heap.size, 0, none⟩) 3 3) (w' := w7.alloc (.cells #[.string ⟨#[]⟩, .string ⟨#[120]⟩, .string ⟨#[49, 50, 51, 52, 53, 54, 55, 56]⟩] 9)) rfl rfl (by go_simp) ⟨trivial, ?_⟩)
          have SPn1 := hid (SPn0.out.alloc (.cells #[.string ⟨#[]⟩, .string ⟨#[120]⟩, .string ⟨#[49, 50, 51, 52, 53, 54, 55, 56]⟩] 9))
          have uSPn1 := SPn1.out.box.c1
          obtain ⟨z, hzs, hzc⟩ := three_new w7 (x := x4) (by omega)
          have HZ3 : Hid (∀ s ∈ ss ++ [z], s.size ≤ 10000) := sizes_app HZ.out (by omega)
          refine wpAnyH_take (i := 5) (v := .pointer (some ⟨w7.heap.size, x4, none⟩)) rfl (by kernel_rfl) (by kernel_rfl) (by kernel_rfl) (fun _ _ _ h => h) (.inl ⟨rfl, fun w' _ => by go_simp⟩) trivial ?_
          refine held_one 6 (by kernel_rfl) (op_value (v := .string z) (w' := (w7.alloc (.cells #[.string ⟨#[]⟩, .string ⟨#[120]⟩, .string ⟨#[49, 50, 51, 52, 53, 54, 55, 56]⟩] 9))) rfl rfl (by go_simp) ⟨trivial, ?_⟩)
          refine held_one 7 (by kernel_rfl) (op_value (v := .slice (some ⟨w7.heap.size + 1, 0, none⟩) 1 1) (w' := (w7.alloc (.cells #[.string ⟨#[]⟩, .string ⟨#[120]⟩, .string ⟨#[49, 50, 51, 52, 53, 54, 55, 56]⟩] 9)).alloc (.cells #[.string z] 9)) rfl rfl (by go_simp) ⟨trivial, ?_⟩)
          have SPn2 := hid (SPn1.out.alloc (.cells #[.string z] 9))
          refine held_one 8 (by kernel_rfl) (op_wp rfl rfl (wp_append_lies _ (.tmp 41) (.tmp 47) 25 rfl (w.heap.size + 2) 9 i0 (.string ⟨#[]⟩) 1 16 Tryz.underlying25 hi hz0 hz1 hz2 rfl (by decide) (.slice a5 ss.length c5) ss.length _ (by go_simp) SPn2.out.row ⟨w7.heap.size + 1, 0, none⟩ 1 1 [.string z] (by go_simp) rfl (one_new (w7.alloc (.cells #[.string ⟨#[]⟩, .string ⟨#[120]⟩, .string ⟨#[49, 50, 51, 52, 53, 54, 55, 56]⟩] 9)) z (w7.heap.size + 1) (by simp)) (by simp [Value.oneCell']) (by decide) (by unfold maxLen; omega) (by omega) SPn2.out.room _ rfl ?_))
          intro g' cap' w8 hown8 hgrow8 _ _
          obtain ⟨bx8, sp8⟩ := SPn2.out.append (ss' := ss ++ [z]) hgrow8 (by simpa using hown8)
          have d1 := bx8.c1
          have df1 := bx8.fz 1
          have SPE := hid sp8
          clear bx8 sp8 hown8 hgrow8
          refine ⟨trivial, held_one 9 (by kernel_rfl) (op_value (v := .pointer (some ⟨b5, 1, none⟩)) (w' := w8) rfl rfl (by go_simp) ⟨trivial, held_one 10 (by kernel_rfl) (op_skip (w' := w8.setCell ⟨b5, 1, none⟩ (.slice (some ⟨g', 0, none⟩) (ss.length + 1) cap')) rfl rfl (by go_simp) ⟨trivial, wpAnyH_done (by kernel_rfl) ?_ _⟩)⟩)⟩
          have z0 := SPE.out.box.c0
          have z1 := SPE.out.box.c1
          have zr0 := SPE.out.res.c0
          have zrf := SPE.out.res.fz 0
          have y8 := LBox.set0 n SPE.out.res
          have t1 := y8.c1
          have tf1 := y8.fz 1
          have y9 := y8.set1 (.slice (some ⟨g', 0, none⟩) (ss.length + 1) cap')
          have HF := hid (SPE.out.fin n (.slice (some ⟨g', 0, none⟩) (ss.length + 1) cap'))
          clear y8
          go_simp
          go_wp2
          exact bodyPost_ret (v := .agg #[.int .i64 n, .slice (some ⟨g', 0, none⟩) (ss.length + 1) cap']) (by simp [results, Tryz.results44, go_sem, y9.c0, y9.c1]) rfl ⟨n, _, ss ++ [z], rfl, Reads.of_row HF.out.1, by simp; omega, HZ3.out, HF.out.2⟩
        · have SPn1 := hid (SPn0.out.alloc (.cells #[.string ⟨#[]⟩, .string ⟨#[120]⟩, .string ⟨#[49, 50, 51, 52, 53, 54, 55, 56]⟩] 9))
          have uSPn1 := SPn1.out.box.c1
          obtain ⟨z, hzs, hzc⟩ := three_new w7 (x := x4) (by omega)
          have HZ3 : Hid (∀ s ∈ ss ++ [z], s.size ≤ 10000) := sizes_app HZ.out (by omega)
          refine wpAnyH_take (i := 5) (v := .pointer (some ⟨w7.heap.size, x4, none⟩)) rfl (by kernel_rfl) (by kernel_rfl) (by kernel_rfl) (fun _ _ _ h => h) (.inl ⟨rfl, fun w' _ => by go_simp⟩) trivial ?_
          refine held_two 1 6 (by kernel_rfl) (op_value (v := .slice a5 ss.length c5) (w' := (w7.alloc (.cells #[.string ⟨#[]⟩, .string ⟨#[120]⟩, .string ⟨#[49, 50, 51, 52, 53, 54, 55, 56]⟩] 9))) rfl rfl (by go_simp) ⟨trivial, ?_⟩) (op_value (v := .string z) (w' := (w7.alloc (.cells #[.string ⟨#[]⟩, .string ⟨#[120]⟩, .string ⟨#[49, 50, 51, 52, 53, 54, 55, 56]⟩] 9))) rfl rfl (by go_simp) ⟨trivial, ?_⟩)
          · refine held_one 6 (by kernel_rfl) (op_value (v := .string z) (w' := (w7.alloc (.cells #[.string ⟨#[]⟩, .string ⟨#[120]⟩, .string ⟨#[49, 50, 51, 52, 53, 54, 55, 56]⟩] 9))) rfl rfl (by go_simp) ⟨trivial, ?_⟩)
            refine held_one 7 (by kernel_rfl) (op_value (v := .slice (some ⟨w7.heap.size + 1, 0, none⟩) 1 1) (w' := (w7.alloc (.cells #[.string ⟨#[]⟩, .string ⟨#[120]⟩, .string ⟨#[49, 50, 51, 52, 53, 54, 55, 56]⟩] 9)).alloc (.cells #[.string z] 9)) rfl rfl (by go_simp) ⟨trivial, ?_⟩)
            have SPn2 := hid (SPn1.out.alloc (.cells #[.string z] 9))
            refine held_one 8 (by kernel_rfl) (op_wp rfl rfl (wp_append_lies _ (.tmp 41) (.tmp 47) 25 rfl (w.heap.size + 2) 9 i0 (.string ⟨#[]⟩) 1 16 Tryz.underlying25 hi hz0 hz1 hz2 rfl (by decide) (.slice a5 ss.length c5) ss.length _ (by go_simp) SPn2.out.row ⟨w7.heap.size + 1, 0, none⟩ 1 1 [.string z] (by go_simp) rfl (one_new (w7.alloc (.cells #[.string ⟨#[]⟩, .string ⟨#[120]⟩, .string ⟨#[49, 50, 51, 52, 53, 54, 55, 56]⟩] 9)) z (w7.heap.size + 1) (by simp)) (by simp [Value.oneCell']) (by decide) (by unfold maxLen; omega) (by omega) SPn2.out.room _ rfl ?_))
            intro g' cap' w8 hown8 hgrow8 _ _
            obtain ⟨bx8, sp8⟩ := SPn2.out.append (ss' := ss ++ [z]) hgrow8 (by simpa using hown8)
            have d1 := bx8.c1
            have df1 := bx8.fz 1
            have SPE := hid sp8
            clear bx8 sp8 hown8 hgrow8
            refine ⟨trivial, held_one 9 (by kernel_rfl) (op_value (v := .pointer (some ⟨b5, 1, none⟩)) (w' := w8) rfl rfl (by go_simp) ⟨trivial, held_one 10 (by kernel_rfl) (op_skip (w' := w8.setCell ⟨b5, 1, none⟩ (.slice (some ⟨g', 0, none⟩) (ss.length + 1) cap')) rfl rfl (by go_simp) ⟨trivial, wpAnyH_done (by kernel_rfl) ?_ _⟩)⟩)⟩
            have z0 := SPE.out.box.c0
            have z1 := SPE.out.box.c1
            have zr0 := SPE.out.res.c0
            have zrf := SPE.out.res.fz 0
            have y8 := LBox.set0 n SPE.out.res
            have t1 := y8.c1
            have tf1 := y8.fz 1
            have y9 := y8.set1 (.slice (some ⟨g', 0, none⟩) (ss.length + 1) cap')
            have HF := hid (SPE.out.fin n (.slice (some ⟨g', 0, none⟩) (ss.length + 1) cap'))
            clear y8
            go_simp
            go_wp2
            exact bodyPost_ret (v := .agg #[.int .i64 n, .slice (some ⟨g', 0, none⟩) (ss.length + 1) cap']) (by simp [results, Tryz.results44, go_sem, y9.c0, y9.c1]) rfl ⟨n, _, ss ++ [z], rfl, Reads.of_row HF.out.1, by simp; omega, HZ3.out, HF.out.2⟩
          · refine held_two 1 7 (by kernel_rfl) (op_value (v := .slice a5 ss.length c5) (w' := (w7.alloc (.cells #[.string ⟨#[]⟩, .string ⟨#[120]⟩, .string ⟨#[49, 50, 51, 52, 53, 54, 55, 56]⟩] 9))) rfl rfl (by go_simp) ⟨trivial, ?_⟩) (op_value (v := .slice (some ⟨w7.heap.size + 1, 0, none⟩) 1 1) (w' := (w7.alloc (.cells #[.string ⟨#[]⟩, .string ⟨#[120]⟩, .string ⟨#[49, 50, 51, 52, 53, 54, 55, 56]⟩] 9)).alloc (.cells #[.string z] 9)) rfl rfl (by go_simp) ⟨trivial, ?_⟩)
            · refine held_one 7 (by kernel_rfl) (op_value (v := .slice (some ⟨w7.heap.size + 1, 0, none⟩) 1 1) (w' := (w7.alloc (.cells #[.string ⟨#[]⟩, .string ⟨#[120]⟩, .string ⟨#[49, 50, 51, 52, 53, 54, 55, 56]⟩] 9)).alloc (.cells #[.string z] 9)) rfl rfl (by go_simp) ⟨trivial, ?_⟩)
              have SPn2 := hid (SPn1.out.alloc (.cells #[.string z] 9))
              refine held_one 8 (by kernel_rfl) (op_wp rfl rfl (wp_append_lies _ (.tmp 41) (.tmp 47) 25 rfl (w.heap.size + 2) 9 i0 (.string ⟨#[]⟩) 1 16 Tryz.underlying25 hi hz0 hz1 hz2 rfl (by decide) (.slice a5 ss.length c5) ss.length _ (by go_simp) SPn2.out.row ⟨w7.heap.size + 1, 0, none⟩ 1 1 [.string z] (by go_simp) rfl (one_new (w7.alloc (.cells #[.string ⟨#[]⟩, .string ⟨#[120]⟩, .string ⟨#[49, 50, 51, 52, 53, 54, 55, 56]⟩] 9)) z (w7.heap.size + 1) (by simp)) (by simp [Value.oneCell']) (by decide) (by unfold maxLen; omega) (by omega) SPn2.out.room _ rfl ?_))
              intro g' cap' w8 hown8 hgrow8 _ _
              obtain ⟨bx8, sp8⟩ := SPn2.out.append (ss' := ss ++ [z]) hgrow8 (by simpa using hown8)
              have d1 := bx8.c1
              have df1 := bx8.fz 1
              have SPE := hid sp8
              clear bx8 sp8 hown8 hgrow8
              refine ⟨trivial, held_one 9 (by kernel_rfl) (op_value (v := .pointer (some ⟨b5, 1, none⟩)) (w' := w8) rfl rfl (by go_simp) ⟨trivial, held_one 10 (by kernel_rfl) (op_skip (w' := w8.setCell ⟨b5, 1, none⟩ (.slice (some ⟨g', 0, none⟩) (ss.length + 1) cap')) rfl rfl (by go_simp) ⟨trivial, wpAnyH_done (by kernel_rfl) ?_ _⟩)⟩)⟩
              have z0 := SPE.out.box.c0
              have z1 := SPE.out.box.c1
              have zr0 := SPE.out.res.c0
              have zrf := SPE.out.res.fz 0
              have y8 := LBox.set0 n SPE.out.res
              have t1 := y8.c1
              have tf1 := y8.fz 1
              have y9 := y8.set1 (.slice (some ⟨g', 0, none⟩) (ss.length + 1) cap')
              have HF := hid (SPE.out.fin n (.slice (some ⟨g', 0, none⟩) (ss.length + 1) cap'))
              clear y8
              go_simp
              go_wp2
              exact bodyPost_ret (v := .agg #[.int .i64 n, .slice (some ⟨g', 0, none⟩) (ss.length + 1) cap']) (by simp [results, Tryz.results44, go_sem, y9.c0, y9.c1]) rfl ⟨n, _, ss ++ [z], rfl, Reads.of_row HF.out.1, by simp; omega, HZ3.out, HF.out.2⟩
            · have SPn2 := hid (SPn1.out.alloc (.cells #[.string z] 9))
              have u2 := SPn2.out.box.c1
              refine held_one 1 (by kernel_rfl) (op_value (v := .slice a5 ss.length c5) (w' := ((w7.alloc (.cells #[.string ⟨#[]⟩, .string ⟨#[120]⟩, .string ⟨#[49, 50, 51, 52, 53, 54, 55, 56]⟩] 9)).alloc (.cells #[.string z] 9))) rfl rfl (by go_simp) ⟨trivial, ?_⟩)
              refine held_one 8 (by kernel_rfl) (op_wp rfl rfl (wp_append_lies _ (.tmp 41) (.tmp 47) 25 rfl (w.heap.size + 2) 9 i0 (.string ⟨#[]⟩) 1 16 Tryz.underlying25 hi hz0 hz1 hz2 rfl (by decide) (.slice a5 ss.length c5) ss.length _ (by go_simp) SPn2.out.row ⟨w7.heap.size + 1, 0, none⟩ 1 1 [.string z] (by go_simp) rfl (one_new (w7.alloc (.cells #[.string ⟨#[]⟩, .string ⟨#[120]⟩, .string ⟨#[49, 50, 51, 52, 53, 54, 55, 56]⟩] 9)) z (w7.heap.size + 1) (by simp)) (by simp [Value.oneCell']) (by decide) (by unfold maxLen; omega) (by omega) SPn2.out.room _ rfl ?_))
              intro g' cap' w8 hown8 hgrow8 _ _
              obtain ⟨bx8, sp8⟩ := SPn2.out.append (ss' := ss ++ [z]) hgrow8 (by simpa using hown8)
              have d1 := bx8.c1
              have df1 := bx8.fz 1
              have SPE := hid sp8
              clear bx8 sp8 hown8 hgrow8
              refine ⟨trivial, held_one 9 (by kernel_rfl) (op_value (v := .pointer (some ⟨b5, 1, none⟩)) (w' := w8) rfl rfl (by go_simp) ⟨trivial, held_one 10 (by kernel_rfl) (op_skip (w' := w8.setCell ⟨b5, 1, none⟩ (.slice (some ⟨g', 0, none⟩) (ss.length + 1) cap')) rfl rfl (by go_simp) ⟨trivial, wpAnyH_done (by kernel_rfl) ?_ _⟩)⟩)⟩
              have z0 := SPE.out.box.c0
              have z1 := SPE.out.box.c1
              have zr0 := SPE.out.res.c0
              have zrf := SPE.out.res.fz 0
              have y8 := LBox.set0 n SPE.out.res
              have t1 := y8.c1
              have tf1 := y8.fz 1
              have y9 := y8.set1 (.slice (some ⟨g', 0, none⟩) (ss.length + 1) cap')
              have HF := hid (SPE.out.fin n (.slice (some ⟨g', 0, none⟩) (ss.length + 1) cap'))
              clear y8
              go_simp
              go_wp2
              exact bodyPost_ret (v := .agg #[.int .i64 n, .slice (some ⟨g', 0, none⟩) (ss.length + 1) cap']) (by simp [results, Tryz.results44, go_sem, y9.c0, y9.c1]) rfl ⟨n, _, ss ++ [z], rfl, Reads.of_row HF.out.1, by simp; omega, HZ3.out, HF.out.2⟩
    · have e0 := SP6.out.box.c0
      have e1 := SP6.out.box.c1
      have ef1 := SP6.out.box.fz 1
      have r0 := SP6.out.res.c0
      have rf0 := SP6.out.res.fz 0
      by_cases hl1 : 0 < ss.length
      · have hl1' : (0 : Int) < (ss.length : Int) := by omega
        obtain ⟨_, _, e5, hg5⟩ := row_form SP6.out.row
        simp only [Value.slice.injEq] at e5
        obtain ⟨rfl, _, rfl⟩ := e5
        obtain ⟨g, rfl, hgl⟩ := hg5 (by omega)
        obtain ⟨hcl, hcells⟩ := row_capcells SP6.out.row
        have hcap : (ss.length : Int) ≤ (c5 : Int) := by omega
        clear hg5
        by_cases hc1 : c5 = 1
        · subst hc1
          have SQ := hid (SP6.out.cut (.slice (some ⟨g, 0, none⟩) 0 0))
          have z0 := SQ.out.1.c0
          have z1 := SQ.out.1.c1
          have zr0 := SQ.out.2.1.c0
          have zrf := SQ.out.2.1.fz 0
          have y8 : LBox ((w6.setCell ⟨b5, 1, none⟩ (.slice (some ⟨g, 0, none⟩) 0 0)).setCell ⟨w.heap.size + 1, 0, none⟩ (.int .i64 n)) (w.heap.size + 1) n (.slice none 0 0) := LBox.set0 n SQ.out.2.1
          have t1 := y8.c1
          have tf1 := y8.fz 1
          have y9 := y8.set1 (.slice (some ⟨g, 0, none⟩) 0 0)
          have HF := hid (SQ.out.2.2 n (.slice (some ⟨g, 0, none⟩) 0 0))
          clear y8
          go_wp2
          refine bodyPost_ret (v := .agg #[.int .i64 n, .slice (some ⟨g, 0, none⟩) 0 0]) (by simp [results, Tryz.results44, go_sem, y9.c0, y9.c1]) rfl ⟨n, _, [], rfl, .inl ⟨rfl, some ⟨g, 0, none⟩, 0, rfl⟩, by simp, by simp, HF.out.2⟩
        · have hc1' : ¬ ((c5 : Int) = 1) := by omega
          have hc2 : (1 : Int) < (c5 : Int) := by omega
          have SQ := hid (SP6.out.cut (.slice (some ⟨g, 1, none⟩) (ss.length - 1) (c5 - 1)))
          have z0 := SQ.out.1.c0
          have z1 := SQ.out.1.c1
          have zr0 := SQ.out.2.1.c0
          have zrf := SQ.out.2.1.fz 0
          have y8 : LBox ((w6.setCell ⟨b5, 1, none⟩ (.slice (some ⟨g, 1, none⟩) (ss.length - 1) (c5 - 1))).setCell ⟨w.heap.size + 1, 0, none⟩ (.int .i64 n)) (w.heap.size + 1) n (.slice none 0 0) := LBox.set0 n SQ.out.2.1
          have t1 := y8.c1
          have tf1 := y8.fz 1
          have y9 := y8.set1 (.slice (some ⟨g, 1, none⟩) (ss.length - 1) (c5 - 1))
          have HF := hid (SQ.out.2.2 n (.slice (some ⟨g, 1, none⟩) (ss.length - 1) (c5 - 1)))
          clear y8
          go_wp2
          refine bodyPost_ret (v := .agg #[.int .i64 n, .slice (some ⟨g, 1, none⟩) (ss.length - 1) (c5 - 1)]) (by simp [results, Tryz.results44, go_sem, y9.c0, y9.c1]) rfl ⟨n, _, ss.drop 1, rfl, ?_, by rw [List.length_drop]; omega, fun s hs => HZ.out s (List.mem_of_mem_drop hs), HF.out.2⟩
          obtain ⟨_, hcells2⟩ := row_capcells HF.out.1
          exact reads_drop2 1 (HF.out.1.lt g rfl).2 hcells2
      · have hl1' : ¬ ((0 : Int) < (ss.length : Int)) := by omega
        have y8 : LBox (w6.setCell ⟨w.heap.size + 1, 0, none⟩ (.int .i64 n)) (w.heap.size + 1) n (.slice none 0 0) := LBox.set0 n SP6.out.res
        have s1 := y8.c1
        have sf1 := y8.fz 1
        have y9 := y8.set1 (.slice a5 ss.length c5)
        have HF := hid (SP6.out.fin n (.slice a5 ss.length c5))
        clear y8
        go_wp2
        exact bodyPost_ret (v := .agg #[.int .i64 n, .slice a5 ss.length c5]) (by simp [results, Tryz.results44, go_sem, y9.c0, y9.c1]) rfl ⟨n, _, ss, rfl, Reads.of_row HF.out.1, by omega, HZ.out, HF.out.2⟩
    · go_wp2_with fail
      refine (HP.out (p + 1) 2 _ SP6.out.rd (by omega) (by omega) (by omega)).mono ?_
      rintro e w7 ⟨y, rfl, hy, hr7, hg7⟩
      have SP7 := hid (SP6.out.step hr7 hg7)
      clear hr7 hg7 SP6
      go_wp2
      go_loopw [] (fun wr => ∃ (ss' : List ByteArray) (a' : Option Addr) (c' : Nat), Spo w wr rb a nn cap bs (p + 1 + 1) b5 n n (.slice a' ss'.length c') (.slice av ss.length cv) ss' ∧ ss'.length ≤ 401 ∧ ∀ s ∈ ss', s.size ≤ 10000) (fun wr => 1000 - boxLen wr b5)
      case atStart => exact ⟨ss, a5, c5, SP7.out, by omega, HZ.out⟩
      case round =>
        clear SP7
        obtain ⟨ss', a', c', hsp, hl', hz'⟩ := hrel
        have SPE := hid hsp
        have HZ' := hid hz'
        have e1 := SPE.out.box.c1
        have ef1 := SPE.out.box.fz 1
        clear hsp hz'
        by_cases hlt' : ss'.length < 375 + y
        · have hlt'' : (ss'.length : Int) < 375 + (y : Int) := by omega
          have hal := SPE.out.rd.lt
          have hsz8 : w.heap.size + 2 ≤ wr.heap.size := by have := SPE.out.ge; have := SPE.out.box.lt; omega
          go_wp2_with (at_builtin; refine wpList_append_own _ rfl _ _ 25 rfl (w.heap.size + 2) 9 i0 (.string ⟨#[]⟩) 1 16 Tryz.underlying25 hi hz0 hz1 hz2 rfl (by decide) _ _ _ rfl (SPE.out.row.alloc _) ⟨_, 0, none⟩ 1 1 [.string ⟨#[49, 50, 51, 52, 53, 54, 55, 56]⟩] rfl rfl (cell_one_new _ _ _) (by simp [Value.oneCell']) (by unfold maxLen; omega) (by omega) (by simp; omega) ?_; intro v' w8 hown' hgrow _; obtain ⟨a2, c2, rfl, _⟩ := row_form hown'; obtain ⟨bx8, sp8⟩ := (SPE.out.alloc (.cells #[.string ⟨#[49, 50, 51, 52, 53, 54, 55, 56]⟩] 9)).append (ss' := ss' ++ [⟨#[49, 50, 51, 52, 53, 54, 55, 56]⟩]) hgrow (by simpa using hown'); have d1 := bx8.c1; have df1 := bx8.fz 1; have SP8 := hid sp8; clear bx8 sp8 hown' hgrow)
          have hk8 := boxLen_of SP8.out.box
          have hk := boxLen_of SPE.out.box
          rw [hk8, hk]
          refine ⟨⟨ss' ++ [⟨#[49, 50, 51, 52, 53, 54, 55, 56]⟩], a2, c2, by simpa using SP8.out, by simp; omega, fun s hs => ?_⟩, by omega⟩
          rcases List.mem_append.1 hs with h | h
          · exact HZ'.out s h
          · simp only [List.mem_cons, List.not_mem_nil, or_false] at h
            rw [h]; decide
        · have hlt'' : ¬ ((ss'.length : Int) < 375 + (y : Int)) := by omega
          have z0 := SPE.out.box.c0
          have z1 := SPE.out.box.c1
          have zr0 := SPE.out.res.c0
          have zrf := SPE.out.res.fz 0
          have y8 := LBox.set0 n SPE.out.res
          have t1 := y8.c1
          have tf1 := y8.fz 1
          have y9 := y8.set1 (.slice a' ss'.length c')
          have HF := hid (SPE.out.fin n (.slice a' ss'.length c'))
          clear y8
          go_wp2
          exact bodyPost_ret (v := .agg #[.int .i64 n, (.slice a' ss'.length c')]) (by simp [results, Tryz.results44, go_sem, y9.c0, y9.c1]) rfl (by first | exact ⟨n, _, ss', rfl, Reads.of_row HF.out.1, by omega, HZ'.out, HF.out.2⟩ | exact ⟨n, _, rfl, ss', Reads.of_row HF.out.1, by omega, HZ'.out, HF.out.2⟩)
    · have e0 := SP6.out.box.c0
      have e1 := SP6.out.box.c1
      have r0 := SP6.out.res.c0
      have rf0 := SP6.out.res.fz 0
      by_cases hl1 : 1 < ss.length
      · have hl1' : (1 : Int) < (ss.length : Int) := by omega
        obtain ⟨_, _, e5, hg5⟩ := row_form SP6.out.row
        simp only [Value.slice.injEq] at e5
        obtain ⟨rfl, _, rfl⟩ := e5
        obtain ⟨g, rfl, hgl⟩ := hg5 (by omega)
        have q0 := SP6.out.row.cellAt 0 (by omega)
        have q1 := SP6.out.row.cellAt 1 (by omega)
        have qf := SP6.out.row.frozenAt 0
        have q0' : w6.cell? ⟨g, 0, none⟩ = some (.string (ss.getD 0 ByteArray.empty)) := by rw [q0]; simp [show 0 < ss.length by omega]
        have q1' : w6.cell? ⟨g, 1, none⟩ = some (.string (ss.getD 1 ByteArray.empty)) := by rw [q1]; simp [hl1]
        have SP7 := hid (SP6.out.put0 (ss.getD 1 ByteArray.empty))
        rw [List.length_set] at SP7
        have HS1 : Hid (∀ s ∈ ss.set 0 (ss.getD 1 ByteArray.empty), s.size ≤ 10000) := fun s hs => by
          rcases List.mem_or_eq_of_mem_set hs with h | h
          · exact HZ.out s h
          · rw [h, List.getD_eq_getElem?_getD, List.getElem?_eq_getElem hl1]; exact HZ.out _ (List.getElem_mem hl1)
        generalize ss.getD 0 ByteArray.empty = s0 at *
        generalize ss.getD 1 ByteArray.empty = s1 at *
        have z0 := SP7.out.box.c0
        have z1 := SP7.out.box.c1
        have zr0 := SP7.out.res.c0
        have zrf := SP7.out.res.fz 0
        have y8 : LBox ((w6.setCell ⟨g, 0, none⟩ (.string s1)).setCell ⟨w.heap.size + 1, 0, none⟩ (.int .i64 n)) (w.heap.size + 1) n (.slice none 0 0) := LBox.set0 n SP7.out.res
        have t1 := y8.c1
        have tf1 := y8.fz 1
        have y9 := y8.set1 (.slice (some ⟨g, 0, none⟩) ss.length c5)
        have HF := hid (SP7.out.fin n (.slice (some ⟨g, 0, none⟩) ss.length c5))
        clear q0 q1 y8 hgl hg5
        go_wp2_with fail
        go_region
        all_goals
          go_wp2
          exact bodyPost_ret (v := .agg #[.int .i64 n, .slice (some ⟨g, 0, none⟩) ss.length c5]) (by simp [results, Tryz.results44, go_sem, y9.c0, y9.c1]) rfl ⟨n, .slice (some ⟨g, 0, none⟩) ss.length c5, ss.set 0 s1, rfl, Reads.of_row (base := w.heap.size + 2) HF.out.1, by rw [List.length_set]; omega, HS1.out, grown_drew HF.out.2⟩
      · have hl1' : ¬ ((1 : Int) < (ss.length : Int)) := by omega
        have y8 : LBox (w6.setCell ⟨w.heap.size + 1, 0, none⟩ (.int .i64 n)) (w.heap.size + 1) n (.slice none 0 0) := LBox.set0 n SP6.out.res
        have s1 := y8.c1
        have sf1 := y8.fz 1
        have y9 := y8.set1 (.slice a5 ss.length c5)
        have HF := hid (SP6.out.fin n (.slice a5 ss.length c5))
        clear y8
        go_wp2
        exact bodyPost_ret (v := .agg #[.int .i64 n, .slice a5 ss.length c5]) (by simp [results, Tryz.results44, go_sem, y9.c0, y9.c1]) rfl ⟨n, _, ss, rfl, Reads.of_row HF.out.1, by omega, HZ.out, HF.out.2⟩
end Go.Proofs.YtfamkeligbiidaaGreatDoor
