import Derived.Shelf.Small.Strs
import Derived.Shelf.Small.Wraps
import Derived.Shelf.Strconv.AtoiAll
import Derived.Shelf.Strings.Search2
import Derived.Test.YtkjdabnglcabiaaGreatDoorBytes
import Derived.Test.YtkjdabnglcabiaaGreatDoorReadTurned
import Derived.Laws.MakeOwn
import Derived.BigQuiet
import Derived.LaidEql
import Derived.Stop.Asserts
import Derived.RowKitTokens
/- The library functions that reading a list calls, laid at this program. -/
namespace Go.Proofs.YtkjdabnglcabiaaGreatDoor
open Go.RowKit Go.Shelf
def lays137_ren : Go.Shelf.Ren := ⟨fun | 137 => 159 | 217 => 163 | 266 => 169 | n => n, fun | 9 => 9 | 5 => 5 | 3 => 3 | n => n, fun | n => n⟩
theorem lays137 : Go.Proofs.Lays.n137 Tryz.prog lays137_ren := {
 mixed := by kernel_rfl
 f137 := Tryz.func159.trans (congrArg some (by kernel_rfl))
 f217 := Tryz.func163.trans (congrArg some (by kernel_rfl))
 f266 := Tryz.func169.trans (congrArg some (by kernel_rfl))
 t3 := Tryz.underlying3
 a3 := Tryz.isAgg3
 z3 := Tryz.sizeOf3
 v3 := Tryz.zeroValue3
 t5 := Tryz.underlying5
 a5 := Tryz.isAgg5
 z5 := Tryz.sizeOf5
 v5 := Tryz.zeroValue5
 t9 := Tryz.underlying9
 a9 := Tryz.isAgg9
 z9 := Tryz.sizeOf9
 v9 := Tryz.zeroValue9 }
def lays103_ren : Go.Shelf.Ren := ⟨fun | 103 => 157 | 210 => 167 | 206 => 171 | n => n, fun | 9 => 9 | 4 => 4 | 24 => 33 | 3 => 3 | n => n, fun | n => n⟩
theorem lays103 : Go.Proofs.Lays.n103 Tryz.prog lays103_ren := {
 mixed := by kernel_rfl
 f103 := Tryz.func157.trans (congrArg some (by kernel_rfl))
 f206 := Tryz.func171.trans (congrArg some (by kernel_rfl))
 f210 := Tryz.func167.trans (congrArg some (by kernel_rfl))
 t3 := Tryz.underlying3
 a3 := Tryz.isAgg3
 z3 := Tryz.sizeOf3
 v3 := Tryz.zeroValue3
 t4 := Tryz.underlying4
 a4 := Tryz.isAgg4
 z4 := Tryz.sizeOf4
 v4 := Tryz.zeroValue4
 t9 := Tryz.underlying9
 a9 := Tryz.isAgg9
 z9 := Tryz.sizeOf9
 v9 := Tryz.zeroValue9
 t24 := Tryz.underlying33
 a24 := Tryz.isAgg33
 z24 := Tryz.sizeOf33
 v24 := Tryz.zeroValue33 }
def laysC172_ren : Go.Shelf.Ren := ⟨fun | 172 => 168 | 244 => 172 | 245 => 173 | 247 => 174 | 279 => 175 | 280 => 176 | 281 => 177 | 282 => 178 | 287 => 179 | 316 => 85 | 171 => 76 | 205 => 180 | 321 => 181 | 322 => 182 | 243 => 99 | 246 => 115 | 283 => 136 | 284 => 137 | 285 => 138 | 286 => 139 | 129 => 134 | 317 => 152 | 318 => 153 | 319 => 154 | 320 => 155 | 337 => 161 | 338 => 162 | n => n, fun | 9 => 9 | 3 => 3 | 75 => 117 | 76 => 118 | 4 => 4 | 5 => 5 | 167 => 232 | 37 => 22 | 0 => 0 | 85 => 233 | 2 => 2 | 168 => 235 | 53 => 92 | 175 => 238 | 46 => 135 | 210 => 241 | 127 => 139 | 145 => 246 | 143 => 244 | 21 => 21 | 171 => 191 | 173 => 193 | 212 => 218 | 51 => 189 | 20 => 20 | 213 => 219 | 232 => 227 | 233 => 228 | 80 => 120 | n => n, fun | 15 => 9 | 16 => 10 | 17 => 3 | 18 => 7 | 19 => 8 | n => n⟩
theorem laysC172 : Go.Proofs.LaysC.n172 Tryz.prog laysC172_ren := {
 mixed := by kernel_rfl
 f129 := Tryz.func134.trans (congrArg some (by kernel_rfl))
 f171 := Tryz.func76.trans (congrArg some (by kernel_rfl))
 f172 := Tryz.func168.trans (congrArg some (by kernel_rfl))
 f205 := Tryz.func180.trans (congrArg some (by kernel_rfl))
 f243 := Tryz.func99.trans (congrArg some (by kernel_rfl))
 f244 := Tryz.func172.trans (congrArg some (by kernel_rfl))
 f245 := Tryz.func173.trans (congrArg some (by kernel_rfl))
 f246 := Tryz.func115.trans (congrArg some (by kernel_rfl))
 f247 := Tryz.func174.trans (congrArg some (by kernel_rfl))
 f279 := Tryz.func175.trans (congrArg some (by kernel_rfl))
 f280 := Tryz.func176.trans (congrArg some (by kernel_rfl))
 f281 := Tryz.func177.trans (congrArg some (by kernel_rfl))
 f282 := Tryz.func178.trans (congrArg some (by kernel_rfl))
 f283 := Tryz.func136.trans (congrArg some (by kernel_rfl))
 f284 := Tryz.func137.trans (congrArg some (by kernel_rfl))
 f285 := Tryz.func138.trans (congrArg some (by kernel_rfl))
 f286 := Tryz.func139.trans (congrArg some (by kernel_rfl))
 f287 := Tryz.func179.trans (congrArg some (by kernel_rfl))
 f316 := Tryz.func85.trans (congrArg some (by kernel_rfl))
 f317 := Tryz.func152.trans (congrArg some (by kernel_rfl))
 f318 := Tryz.func153.trans (congrArg some (by kernel_rfl))
 f319 := Tryz.func154.trans (congrArg some (by kernel_rfl))
 f320 := Tryz.func155.trans (congrArg some (by kernel_rfl))
 f321 := Tryz.func181.trans (congrArg some (by kernel_rfl))
 f322 := Tryz.func182.trans (congrArg some (by kernel_rfl))
 f337 := Tryz.func161.trans (congrArg some (by kernel_rfl))
 f338 := Tryz.func162.trans (congrArg some (by kernel_rfl))
 t0 := Tryz.underlying0
 a0 := Tryz.isAgg0
 z0 := Tryz.sizeOf0
 v0 := Tryz.zeroValue0
 t2 := Tryz.underlying2
 a2 := Tryz.isAgg2
 z2 := Tryz.sizeOf2
 v2 := Tryz.zeroValue2
 t3 := Tryz.underlying3
 a3 := Tryz.isAgg3
 z3 := Tryz.sizeOf3
 v3 := Tryz.zeroValue3
 t4 := Tryz.underlying4
 a4 := Tryz.isAgg4
 z4 := Tryz.sizeOf4
 v4 := Tryz.zeroValue4
 t5 := Tryz.underlying5
 a5 := Tryz.isAgg5
 z5 := Tryz.sizeOf5
 v5 := Tryz.zeroValue5
 t9 := Tryz.underlying9
 a9 := Tryz.isAgg9
 z9 := Tryz.sizeOf9
 v9 := Tryz.zeroValue9
 t20 := Tryz.underlying20
 a20 := Tryz.isAgg20
 z20 := Tryz.sizeOf20
 v20 := Tryz.zeroValue20
 t21 := Tryz.underlying21
 a21 := Tryz.isAgg21
 z21 := Tryz.sizeOf21
 v21 := Tryz.zeroValue21
 t37 := Tryz.underlying22
 a37 := Tryz.isAgg22
 z37 := Tryz.sizeOf22
 v37 := Tryz.zeroValue22
 t46 := Tryz.underlying135
 a46 := Tryz.isAgg135
 z46 := Tryz.sizeOf135
 v46 := Tryz.zeroValue135
 t51 := Tryz.underlying189
 a51 := Tryz.isAgg189
 z51 := Tryz.sizeOf189
 v51 := Tryz.zeroValue189
 t53 := Tryz.underlying92
 a53 := Tryz.isAgg92
 z53 := Tryz.sizeOf92
 v53 := Tryz.zeroValue92
 t75 := Tryz.underlying117
 a75 := Tryz.isAgg117
 z75 := Tryz.sizeOf117
 v75 := Tryz.zeroValue117
 t76 := Tryz.underlying118
 a76 := Tryz.isAgg118
 z76 := Tryz.sizeOf118
 v76 := Tryz.zeroValue118
 t85 := Tryz.underlying233
 a85 := Tryz.isAgg233
 z85 := Tryz.sizeOf233
 v85 := Tryz.zeroValue233
 t127 := Tryz.underlying139
 a127 := Tryz.isAgg139
 z127 := Tryz.sizeOf139
 v127 := Tryz.zeroValue139
 t143 := Tryz.underlying244
 a143 := Tryz.isAgg244
 z143 := Tryz.sizeOf244
 v143 := Tryz.zeroValue244
 t145 := Tryz.underlying246
 a145 := Tryz.isAgg246
 z145 := Tryz.sizeOf246
 v145 := Tryz.zeroValue246
 t167 := Tryz.underlying232
 a167 := Tryz.isAgg232
 z167 := Tryz.sizeOf232
 v167 := Tryz.zeroValue232
 t168 := Tryz.underlying235
 a168 := Tryz.isAgg235
 z168 := Tryz.sizeOf235
 v168 := Tryz.zeroValue235
 t171 := Tryz.underlying191
 a171 := Tryz.isAgg191
 z171 := Tryz.sizeOf191
 v171 := Tryz.zeroValue191
 t173 := Tryz.underlying193
 a173 := Tryz.isAgg193
 z173 := Tryz.sizeOf193
 v173 := Tryz.zeroValue193
 t175 := Tryz.underlying238
 a175 := Tryz.isAgg238
 z175 := Tryz.sizeOf238
 v175 := Tryz.zeroValue238
 t210 := Tryz.underlying241
 a210 := Tryz.isAgg241
 z210 := Tryz.sizeOf241
 v210 := Tryz.zeroValue241
 t212 := Tryz.underlying218
 a212 := Tryz.isAgg218
 z212 := Tryz.sizeOf218
 v212 := Tryz.zeroValue218
 t213 := Tryz.underlying219
 a213 := Tryz.isAgg219
 z213 := Tryz.sizeOf219
 t232 := Tryz.underlying227
 a232 := Tryz.isAgg227
 z232 := Tryz.sizeOf227
 v232 := Tryz.zeroValue227
 t233 := Tryz.underlying228
 a233 := Tryz.isAgg228
 z233 := Tryz.sizeOf228
 v233 := Tryz.zeroValue228
 g15 := by kernel_rfl
 g16 := by kernel_rfl
 g17 := by kernel_rfl
 g18 := by kernel_rfl
 g19 := by kernel_rfl
 t80 := Tryz.underlying120
 a80 := Tryz.isAgg120
 z80 := Tryz.sizeOf120
 v80 := Tryz.zeroValue120
 i0 := by kernel_rfl
 i2 := by kernel_rfl
 i3 := by kernel_rfl
 i4 := by kernel_rfl
 i5 := by kernel_rfl
 i9 := by kernel_rfl
 i20 := by kernel_rfl
 i21 := by kernel_rfl
 i37 := by kernel_rfl
 i46 := by kernel_rfl
 i51 := by kernel_rfl
 i53 := by kernel_rfl
 i75 := by kernel_rfl
 i76 := by kernel_rfl
 i80 := by kernel_rfl
 i85 := by kernel_rfl
 i127 := by kernel_rfl
 i143 := by kernel_rfl
 i145 := by kernel_rfl
 i167 := by kernel_rfl
 i168 := by kernel_rfl
 i171 := by kernel_rfl
 i173 := by kernel_rfl
 i175 := by kernel_rfl
 i210 := by kernel_rfl
 i212 := by kernel_rfl
 i232 := by kernel_rfl
 i233 := by kernel_rfl
 m15 := by kernel_rfl
 m16 := by kernel_rfl
 m17 := by kernel_rfl
 m18 := by kernel_rfl
 m19 := by kernel_rfl
 c0 := by kernel_rfl
 c2 := by kernel_rfl
 c3 := by kernel_rfl
 c4 := by kernel_rfl
 c5 := by kernel_rfl
 c9 := by kernel_rfl
 c20 := by kernel_rfl
 c21 := by kernel_rfl
 c37 := by kernel_rfl
 c46 := by kernel_rfl
 c51 := by kernel_rfl
 c53 := by kernel_rfl
 c75 := by kernel_rfl
 c76 := by kernel_rfl
 c80 := by kernel_rfl
 c85 := by kernel_rfl
 c127 := by kernel_rfl
 c143 := by kernel_rfl
 c145 := by kernel_rfl
 c167 := by kernel_rfl
 c168 := by kernel_rfl
 c171 := by kernel_rfl
 c173 := by kernel_rfl
 c175 := by kernel_rfl
 c210 := by kernel_rfl
 c212 := by kernel_rfl
 c213 := by kernel_rfl
 c232 := by kernel_rfl
 c233 := by kernel_rfl }
def lays219_ren : Go.Shelf.Ren := ⟨fun | 219 => 156 | 217 => 163 | 225 => 164 | 224 => 165 | 267 => 166 | 266 => 169 | 314 => 170 | n => n, fun | 9 => 9 | 3 => 3 | 4 => 4 | 5 => 5 | 46 => 135 | 146 => 229 | 51 => 189 | n => n, fun | 1 => 6 | n => n⟩
theorem lays219 : Go.Proofs.Lays.n219 Tryz.prog lays219_ren := {
 mixed := by kernel_rfl
 f217 := Tryz.func163.trans (congrArg some (by kernel_rfl))
 f219 := Tryz.func156.trans (congrArg some (by kernel_rfl))
 f224 := Tryz.func165.trans (congrArg some (by kernel_rfl))
 f225 := Tryz.func164.trans (congrArg some (by kernel_rfl))
 f266 := Tryz.func169.trans (congrArg some (by kernel_rfl))
 f267 := Tryz.func166.trans (congrArg some (by kernel_rfl))
 f314 := Tryz.func170.trans (congrArg some (by kernel_rfl))
 t3 := Tryz.underlying3
 a3 := Tryz.isAgg3
 z3 := Tryz.sizeOf3
 v3 := Tryz.zeroValue3
 t4 := Tryz.underlying4
 a4 := Tryz.isAgg4
 z4 := Tryz.sizeOf4
 v4 := Tryz.zeroValue4
 t5 := Tryz.underlying5
 a5 := Tryz.isAgg5
 z5 := Tryz.sizeOf5
 v5 := Tryz.zeroValue5
 t9 := Tryz.underlying9
 a9 := Tryz.isAgg9
 z9 := Tryz.sizeOf9
 v9 := Tryz.zeroValue9
 t46 := Tryz.underlying135
 a46 := Tryz.isAgg135
 z46 := Tryz.sizeOf135
 v46 := Tryz.zeroValue135
 t51 := Tryz.underlying189
 a51 := Tryz.isAgg189
 z51 := Tryz.sizeOf189
 v51 := Tryz.zeroValue189
 t146 := Tryz.underlying229
 a146 := Tryz.isAgg229
 z146 := Tryz.sizeOf229
 v146 := Tryz.zeroValue229
 g1 := by kernel_rfl }
end Go.Proofs.YtkjdabnglcabiaaGreatDoor
/- impl.readSize: the first line. -/
namespace Go.Proofs.YtkjdabnglcabiaaGreatDoor
open Go.RowKit Go.Shelf
theorem cutPrefix_any (s p : ByteArray) (w : World) :
  Calls Tryz.prog 157 #[.string s, .string p] w fun e w' => e = .returned (.tuple #[.string ⟨(Lib.trimPrefix s.data.toList p.data.toList).toArray⟩, .bool (Lib.hasPrefix s.data.toList p.data.toList)]) ∧ w' = w :=
 Any.strings_CutPrefix lays103 s p w
theorem indexByte_any (s : ByteArray) (c : Int) (w : World) : Calls Tryz.prog 159 #[.string s, .int .u8 c] w fun e w' => e = .returned (.int .i64 (Lib.indexByte s.data.toList c.toNat.toUInt8)) ∧ w' = w :=
 Any.strings_IndexByte lays137 s c w
theorem index_one (s : ByteArray) (c : UInt8) (w : World) : Calls Tryz.prog 156 #[.string s, .string ⟨#[c]⟩] w fun e w' => e = .returned (.int .i64 (Lib.indexByte s.data.toList c)) ∧ w' = w :=
 Any.stringslite_Index_one lays219 s c w
/-- The variables that reading a list reads. -/
structure Errs (w : World) : Prop where
 syn : ∃ tp p, w.cell? ⟨9, 0, none⟩ = some (.iface tp p)
 rng : ∃ tp p, w.cell? ⟨10, 0, none⟩ = some (.iface tp p)
 noEnd : ∃ tp p, w.cell? ⟨0, 0, none⟩ = some (.iface tp p)
 many : ∃ tp p, w.cell? ⟨2, 0, none⟩ = some (.iface tp p)
 size : ∃ tp p, w.cell? ⟨4, 0, none⟩ = some (.iface tp p)
 sum : ∃ tp p, w.cell? ⟨5, 0, none⟩ = some (.iface tp p)
 typ : w.cell? ⟨1, 0, none⟩ = some (.iface 199 (.agg #[.pointer (some ⟨11, 117, none⟩)]))
 tab : Lib.TabIs Tryz.prog w "internal/strconv.uint64pow10" .u64 Lib.pow10Tab
theorem cell_kept {w w' : World} (hb : Below w.heap.size w w') {a : Addr} {v : Value} (h : w.cell? a = some v) : w'.cell? a = some v :=
 (hb.cell (World.block_lt_of_cell? w a h)).trans h
theorem Errs.below {w w' : World} (h : Errs w) (hb : Below w.heap.size w w') : Errs w' where
 syn := h.syn.imp fun _ x => x.imp fun _ e => cell_kept hb e
 rng := h.rng.imp fun _ x => x.imp fun _ e => cell_kept hb e
 noEnd := h.noEnd.imp fun _ x => x.imp fun _ e => cell_kept hb e
 many := h.many.imp fun _ x => x.imp fun _ e => cell_kept hb e
 size := h.size.imp fun _ x => x.imp fun _ e => cell_kept hb e
 sum := h.sum.imp fun _ x => x.imp fun _ e => cell_kept hb e
 typ := cell_kept hb h.typ
 tab := tab_below h.tab hb
/-! What strconv.Atoi makes of a decimal -/
def valF (acc : Nat) (l : List UInt8) : Nat := l.foldl (fun v b => v * 10 + (b.toNat - 48)) acc
theorem valF_ge : ∀ (l : List UInt8) (acc : Nat), acc ≤ valF acc l
 | [], acc => Nat.le_refl _
 | b :: l, acc => by
  have := valF_ge l (acc * 10 + (b.toNat - 48))
  show acc ≤ valF (acc * 10 + (b.toNat - 48)) l
  omega
theorem parse_digits : ∀ (l : List UInt8) (acc : Nat), (∀ b ∈ l, 48 ≤ b.toNat ∧ b.toNat ≤ 57) → valF acc l < 1000000 → Lib.parseUint10 acc l = .ok (valF acc l)
 | [], acc, _, _ => rfl
 | b :: l, acc, hd, hv => by
  have hb := hd b (by simp)
  have hv' : valF (acc * 10 + (b.toNat - 48)) l < 1000000 := hv
  have hg := valF_ge l (acc * 10 + (b.toNat - 48))
  have ih := parse_digits l (acc * 10 + (b.toNat - 48)) (fun x hx => hd x (by simp [hx])) hv'
  unfold Lib.parseUint10
  rw [if_pos hb, if_neg (by omega), if_neg (by omega), ih]
  rfl
theorem atoi_dec (n : Nat) (h : n ≤ 9999) : Lib.atoiAll (Lib.decDigits n) = .ok (n : Int) := by
 have hd := dec_digits n n (Nat.le_refl _)
 have hv := (valD_dec n n (Nat.le_refl _)).1
 have hl := (dec_len4 n (by omega)).1
 have hp := parse_digits (Lib.decDigits n) 0 hd (by show valD _ < _; omega)
 have hv2 : valF 0 (Lib.decDigits n) = n := hv
 rw [hv2] at hp
 generalize Lib.decDigits n = l at *
 cases l with
 | nil => simp at hl
 | cons c r =>
  have hc := hd c (by simp)
  have e1 : ¬ (c.toNat = 43 ∨ c.toNat = 45) := by omega
  have e2 : ¬ (c.toNat = 45) := by omega
  simp only [Lib.atoiAll, Lib.parseMag, if_neg e1, reduceCtorEq, if_false, hp]
  rw [if_neg (by omega), if_neg (fun h => e2 h.1), if_neg e2]
theorem atoi_any (s : ByteArray) (hs : s.size ≤ 281474976710656) (w : World) (hw : Errs w) :
  Calls Tryz.prog 168 #[.string s] w fun e w' => ((∃ v : Int, Lib.atoiAll s.data.toList = .ok v ∧ e = .returned (.tuple #[.int .i64 v, .nilIface])) ∨ ((∀ v, Lib.atoiAll s.data.toList ≠ .ok v) ∧ ∃ (x : Int) (tp : TypeId) (p : Value), e = .returned (.tuple #[.int .i64 x, .iface tp p]))) ∧ Below w.heap.size w w' := by
 obtain ⟨t1, p1, h1⟩ := hw.syn
 obtain ⟨t2, p2, h2⟩ := hw.rng
 cases h : Lib.atoiAll s.data.toList with
 | ok v =>
  refine (Any.strconv_Atoi_ok laysC172 s (by omega) v h w).mono ?_
  rintro e w' ⟨rfl, hw'⟩
  refine ⟨.inl ⟨v, rfl, rfl⟩, ?_⟩
  rcases hw' with rfl | ⟨t, rfl⟩
  ·exact Below.refl _ _
  ·exact Lib.bytesWorld_below _ _ _
 | «syntax» =>
  refine (Any.strconv_Atoi_syntax laysC172 s hs h (.iface t1 p1) w h1 (.inr ⟨_, _, rfl⟩)).mono ?_
  rintro e w' ⟨N, rfl, _, _, hb⟩
  exact ⟨.inr ⟨fun v => (by simp), _, _, _, rfl⟩, hb⟩
 | range =>
  refine (Any.strconv_Atoi_range laysC172 s hs h (.iface t2 p2) w h2 (.inr ⟨_, _, rfl⟩)).mono ?_
  rintro e w' ⟨N, rfl, _, _, hb⟩
  exact ⟨.inr ⟨fun v => (by simp), _, _, _, rfl⟩, hb⟩
/-- What readSize answers. -/
def SizeR (line : ByteArray) (e : Ending) : Prop :=
 (∃ n : Nat, n ≤ 3000 ∧ [115, 105, 122, 101, 32] ++ Lib.decDigits n = line.data.toList ∧ e = .returned (.tuple #[.int .i64 n, .nilIface])) ∨ ((∀ n : Nat, n ≤ 3000 → [115, 105, 122, 101, 32] ++ Lib.decDigits n ≠ line.data.toList) ∧ ∃ (tp : TypeId) (p : Value), e = .returned (.tuple #[.int .i64 0, .iface tp p]))
theorem pre_of (n : Nat) {l : List UInt8} (h : [115, 105, 122, 101, 32] ++ Lib.decDigits n = l) : Lib.hasPrefix l [115, 105, 122, 101, 32] = true ∧ Lib.trimPrefix l [115, 105, 122, 101, 32] = Lib.decDigits n := by
 have h1 : Lib.hasPrefix l [115, 105, 122, 101, 32] = true := by
  unfold Lib.hasPrefix
  rw [List.isPrefixOf_iff_prefix, ← h]
  exact List.prefix_append _ _
 refine ⟨h1, ?_⟩
 unfold Lib.trimPrefix
 rw [h1, ← h]
 simp
theorem pre_back {l : List UInt8} (h : Lib.hasPrefix l [115, 105, 122, 101, 32] = true) : [115, 105, 122, 101, 32] ++ Lib.trimPrefix l [115, 105, 122, 101, 32] = l := by
 unfold Lib.trimPrefix
 rw [if_pos h]
 unfold Lib.hasPrefix at h
 rw [List.isPrefixOf_iff_prefix] at h
 obtain ⟨t, rfl⟩ := h
 simp
theorem trim_len (l p : List UInt8) : (Lib.trimPrefix l p).length ≤ l.length := by
 unfold Lib.trimPrefix
 split
 ·rw [List.length_drop]; omega
 ·exact Nat.le_refl _
theorem atoi_le {l : List UInt8} {v : Int} (h : Lib.atoiAll l = .ok v) : v ≤ 9223372036854775807 := by
 unfold Lib.atoiAll at h
 split at h
 ·cases h
 ·dsimp only at h
  split at h
  ·cases h
  ·cases h
  ·split at h
   ·cases h
   ·split at h
    ·cases h
    ·injection h with h
     split at h <;> omega
theorem itoa_big (n : Nat) (hn : n ≤ 9223372036854775807) (w : World) (htab : Lib.TabIs Tryz.prog w "internal/strconv.uint64pow10" .u64 Lib.pow10Tab) :
  Calls Tryz.prog 76 #[.int .i64 n] w fun e w' => e = .returned (.string (decB n)) ∧ Below w.heap.size w w' := by
 refine (Any.strconv_Itoa itLays (n : Int) (by omega) (by omega) w htab).mono ?_
 rintro e w' ⟨rfl, k, os, rfl⟩
 refine ⟨?_, Lib.below_grow w.heap.size w (Nat.le_refl _) k os⟩
 have : Lib.itoa (n : Int) = Lib.decDigits n := by unfold Lib.itoa; rw [if_neg (by omega)]; simp
 rw [this]; rfl
/-- What readDecimal answers. -/
def DecR (d : ByteArray) (e : Ending) : Prop :=
 (∃ n : Nat, n ≤ 9223372036854775807 ∧ decB n = d ∧ e = .returned (.tuple #[.int .i64 n, .bool true])) ∨ ((∀ n : Nat, n ≤ 9999 → decB n ≠ d) ∧ e = .returned (.tuple #[.int .i64 0, .bool false]))
set_option maxRecDepth 100000 in
set_option maxHeartbeats 1000000 in
theorem readDecimal_any (d : ByteArray) (hs : d.size ≤ 281474976710656) (w : World) (hw : Errs w) :
  Calls Tryz.prog 158 #[.string d] w fun e w' => DecR d e ∧ Below w.heap.size w w' := by
 have HW := hid hw
 have HA := hid (atoi_any d hs w hw)
 have HIT := hid fun (v : Nat) (hv : v ≤ 9223372036854775807) W (h : Errs W) => itoa_big v hv W h.tab
 have HK : Hid (∀ k : Nat, k ≤ 9999 → decB k = d → Lib.atoiAll d.data.toList = .ok (k : Int)) := fun k hk h => by
  rw [← decB_data h]; exact atoi_dec k hk
 clear hw hs
 go_enter Tryz.func158, Tryz.ntmps158
 go_wp2_with fail
 refine HA.out.mono ?_
 rintro e w1 ⟨hat, hb1⟩
 have HW1 := hid (HW.out.below hb1)
 have HB1 := hid hb1
 clear hb1 HA HW
 rcases hat with ⟨v, hv, rfl⟩ | ⟨hv, x, tp, p, rfl⟩
 ·by_cases hz : 0 ≤ v
  ·have hle := atoi_le hv
   obtain ⟨n, rfl⟩ := Int.eq_ofNat_of_zero_le hz
   have hn : n ≤ 9223372036854775807 := by omega
   have HI := hid (HIT.out n hn w1 HW1.out)
   have hzz : ¬ ((n : Int) < 0) := by omega
   by_cases he : (decB n).toList = d.toList
   ·have he' : ((decB n).toList == d.toList) = true := by simpa using he
    have HE : Hid (DecR d (.returned (.tuple #[.int .i64 n, .bool true]))) := .inl ⟨n, hn, bytes_ext (by rwa [ByteArray.toList_eq, ByteArray.toList_eq] at he), rfl⟩
    clear he hv HIT hn HK hle hz
    generalize decB n = dn at *
    go_wp2_with (go_at_call 76; refine HI.out.mono ?_; rintro e w2 ⟨rfl, hb2⟩; have HB2 := hid (HB1.out.trans (hb2.mono HB1.out.size)); clear hb2)
    go_ret2
    exact ⟨HE.out, HB2.out⟩
   ·have he' : ((decB n).toList == d.toList) = false := by simpa using he
    have HE : Hid (DecR d (.returned (.tuple #[.int .i64 0, .bool false]))) := .inr ⟨fun k hk h => by
     have e1 := HK.out k hk h
     rw [hv] at e1
     injection e1 with e1
     have : n = k := by omega
     subst this
     exact he (by rw [h]), rfl⟩
    clear he hv HIT hn HK hle hz
    generalize decB n = dn at *
    go_wp2_with (go_at_call 76; refine HI.out.mono ?_; rintro e w2 ⟨rfl, hb2⟩; have HB2 := hid (HB1.out.trans (hb2.mono HB1.out.size)); clear hb2)
    go_ret2
    exact ⟨HE.out, HB2.out⟩
  ·have HE : Hid (DecR d (.returned (.tuple #[.int .i64 0, .bool false]))) := .inr ⟨fun k hk h => by
    have e1 := HK.out k hk h
    rw [hv] at e1
    injection e1 with e1
    omega, rfl⟩
   have hzz : v < 0 := by omega
   clear hv HIT HK hz
   go_wp2_with fail
   go_ret2
   exact ⟨HE.out, HB1.out⟩
 ·have HE : Hid (DecR d (.returned (.tuple #[.int .i64 0, .bool false]))) := .inr ⟨fun k hk h => hv _ (HK.out k hk h), rfl⟩
  clear hv HIT HK
  go_wp2_with fail
  go_ret2
  exact ⟨HE.out, HB1.out⟩
set_option maxRecDepth 100000 in
set_option maxHeartbeats 1000000 in
theorem readSize_walk (line d : ByteArray) (found : Bool) (w : World) (hw : Errs w) (hP : Hid (∀ W, Calls Tryz.prog 157 #[.string line, .string ⟨#[115, 105, 122, 101, 32]⟩] W fun e w' => e = .returned (.tuple #[.string d, .bool found]) ∧ w' = W))
  (hA : Hid (∀ W, Errs W → Calls Tryz.prog 158 #[.string d] W fun e w' => DecR d e ∧ Below W.heap.size W w'))
  (hN : Hid (∀ n : Nat, n ≤ 3000 → [115, 105, 122, 101, 32] ++ Lib.decDigits n = line.data.toList → found = true ∧ decB n = d))
  (hY : Hid (found = true → ∀ n : Nat, decB n = d → [115, 105, 122, 101, 32] ++ Lib.decDigits n = line.data.toList)) :
  Calls Tryz.prog 142 #[.string line] w fun e w' => SizeR line e ∧ Below w.heap.size w w' := by
 have HW := hid hw
 clear hw
 go_enter Tryz.func142, Tryz.ntmps142
 go_wp2_with fail
 refine (hP.out _).mono ?_
 rintro e w' ⟨rfl, rfl⟩
 go_wp2_with fail
 refine (hA.out _ HW.out).mono ?_
 rintro e w1 ⟨hat, hb1⟩
 have HW1 := hid (HW.out.below hb1)
 have HB1 := hid hb1
 obtain ⟨tn, pn, hns⟩ := HW1.out.size
 clear hb1 hP hA HW
 rcases hat with ⟨n, hn, hd, rfl⟩ | ⟨hv, rfl⟩
 ·cases found with
  | false =>
   have HN : Hid (SizeR line (.returned (.tuple #[.int .i64 0, .iface tn pn]))) := .inr ⟨fun n hn h => (by have := (hN.out n hn h).1; contradiction), _, _, rfl⟩
   clear hd hn hN hY HW1
   go_wp2_with fail
   go_region
   all_goals
    go_wp2
    go_ret2
    exact ⟨HN.out, HB1.out.drew⟩
  | true =>
   by_cases hz : n ≤ 3000
   ·have HE : Hid (SizeR line (.returned (.tuple #[.int .i64 n, .nilIface]))) := .inl ⟨n, hz, hY.out rfl n hd, rfl⟩
    have hdz : decide (0 ≤ (n : Int) ∧ (n : Int) ≤ 3000) = true := by simp; omega
    clear hd hn hN hY hz
    go_wp2_with (go_at_call 97; refine (isSize_any _ _).mono ?_; rintro e w' ⟨rfl, rfl⟩; rw [hdz])
    go_ret2
    exact ⟨HE.out, HB1.out⟩
   ·have HE : Hid (SizeR line (.returned (.tuple #[.int .i64 0, .iface tn pn]))) := .inr ⟨fun k hk h => hz (by
     have e2 := (hN.out k hk h).2
     have : n = k := decB_inj (hd.trans e2.symm)
     omega), _, _, rfl⟩
    have hdz : decide (0 ≤ (n : Int) ∧ (n : Int) ≤ 3000) = false := by simp; omega
    clear hd hn hN hY hz
    go_wp2_with (go_at_call 97; refine (isSize_any _ _).mono ?_; rintro e w' ⟨rfl, rfl⟩; rw [hdz])
    go_region
    all_goals
     go_wp2
     go_ret2
     exact ⟨HE.out, HB1.out.drew⟩
 ·have HN : Hid (SizeR line (.returned (.tuple #[.int .i64 0, .iface tn pn]))) := .inr ⟨fun n hn h => hv n (by omega) (hN.out n hn h).2, _, _, rfl⟩
  clear hv hN hY HW1
  cases found with
  | true =>
   go_wp2_with fail
   go_region
   all_goals
    go_wp2
    go_ret2
    exact ⟨HN.out, HB1.out.drew⟩
  | false =>
   go_wp2_with fail
   go_region
   all_goals
    go_wp2
    go_ret2
    exact ⟨HN.out, HB1.out.drew⟩
theorem readSize_any (line : ByteArray) (hs : line.size ≤ 281474976710656) (w : World) (hw : Errs w) :
  Calls Tryz.prog 142 #[.string line] w fun e w' => SizeR line e ∧ Below w.heap.size w w' := by
 have hdz : (⟨(Lib.trimPrefix line.data.toList [115, 105, 122, 101, 32]).toArray⟩ : ByteArray).size ≤ 281474976710656 := by
  have h1 := trim_len line.data.toList [115, 105, 122, 101, 32]
  have h2 : line.data.toList.length = line.size := by rw [Array.length_toList]; rfl
  show (Lib.trimPrefix line.data.toList [115, 105, 122, 101, 32]).toArray.size ≤ _
  rw [List.size_toArray]
  omega
 refine readSize_walk line ⟨(Lib.trimPrefix line.data.toList [115, 105, 122, 101, 32]).toArray⟩ (Lib.hasPrefix line.data.toList [115, 105, 122, 101, 32]) w hw (hid fun W => cutPrefix_any line ⟨#[115, 105, 122, 101, 32]⟩ W) (hid fun W h => readDecimal_any _ hdz W h) (hid fun n hn h => ?_) (hid fun hf n h => ?_)
 ·obtain ⟨h1, h2⟩ := pre_of n h
  refine ⟨h1, bytes_ext ?_⟩
  show (Lib.decDigits n).toArray.toList = (Lib.trimPrefix _ _).toArray.toList
  rw [h2]
 ·have h2 := pre_back hf
  have h3 := decB_data h
  rw [show (⟨(Lib.trimPrefix line.data.toList [115, 105, 122, 101, 32]).toArray⟩ : ByteArray).data.toList = Lib.trimPrefix line.data.toList [115, 105, 122, 101, 32] from rfl] at h3
  rw [h3]
  exact h2
end Go.Proofs.YtkjdabnglcabiaaGreatDoor
/- impl.readSum: a line of digits. -/
namespace Go.Proofs.YtkjdabnglcabiaaGreatDoor
open Go.RowKit Go.Shelf
/-- The value of a digit, below 0 if it is none. -/
def dv (c : UInt8) : Int := Lib.indexByte [48, 49, 50, 51, 52, 53, 54, 55, 56, 57, 97, 98, 99, 100, 101, 102] c
set_option maxRecDepth 100000 in
theorem dv_all : ∀ n : Fin 256, dv (UInt8.ofNat n.val) = -1 ∨ (0 ≤ dv (UInt8.ofNat n.val) ∧ dv (UInt8.ofNat n.val) < 16 ∧ hx (dv (UInt8.ofNat n.val)).toNat = UInt8.ofNat n.val) := by decide
theorem dv_hx : ∀ j : Fin 16, dv (hx j.val) = (j.val : Int) := by decide
theorem dv_of (c : UInt8) : dv c = -1 ∨ (0 ≤ dv c ∧ dv c < 16 ∧ hx (dv c).toNat = c) := by
 have h := dv_all ⟨c.toNat, c.toNat_lt⟩
 have e : UInt8.ofNat c.toNat = c := UInt8.toNat_inj.1 (by rw [UInt8.toNat_ofNat']; have := c.toNat_lt; omega)
 simpa only [e] using h
theorem hexL_dv (l : List UInt8) : ∀ b ∈ hexL l, 0 ≤ dv b := by
 intro b hb
 unfold hexL at hb
 obtain ⟨c, _, hc⟩ := List.mem_flatMap.1 hb
 have hc256 := c.toNat_lt
 simp only [List.mem_cons, List.not_mem_nil, or_false] at hc
 rcases hc with rfl | rfl
 ·rw [dv_hx ⟨c.toNat / 16, by omega⟩]; exact Int.natCast_nonneg _
 ·rw [dv_hx ⟨c.toNat % 16, by omega⟩]; exact Int.natCast_nonneg _
def nib (l : List UInt8) (j : Nat) : Nat := (dv (l.getD j 0)).toNat
/-- A byte when i digits have been read. -/
def bst (l : List UInt8) (i k : Nat) : Nat := if 2 * k + 1 < i then 16 * nib l (2 * k) + nib l (2 * k + 1) else if 2 * k < i then nib l (2 * k) else 0
def rowS (l : List UInt8) (m i : Nat) : List Value := (List.range m).map fun k => .int .u8 ((bst l i k : Nat) : Int)
theorem nib_lt (l : List UInt8) (j : Nat) : nib l j < 16 := by
 unfold nib
 rcases dv_of (l.getD j 0) with h | ⟨h1, h2, _⟩
 ·rw [h]; decide
 ·omega
theorem bst_old (l : List UInt8) (i : Nat) : bst l i (i / 2) < 16 := by
 unfold bst
 rw [if_neg (by omega)]
 split
 ·exact nib_lt _ _
 ·omega
theorem bst_new (l : List UInt8) (i : Nat) : bst l (i + 1) (i / 2) = 16 * bst l i (i / 2) + nib l i := by
 rcases Nat.mod_two_eq_zero_or_one i with h | h
 ·have e : 2 * (i / 2) = i := by omega
  unfold bst
  rw [if_neg (by omega), if_pos (by omega), if_neg (by omega), if_neg (by omega), e]
  omega
 ·have e : 2 * (i / 2) + 1 = i := by omega
  unfold bst
  rw [if_pos (by omega), if_neg (by omega), if_pos (by omega), e]
theorem bst_other (l : List UInt8) (i k : Nat) (h : k ≠ i / 2) : bst l (i + 1) k = bst l i k := by
 unfold bst
 by_cases h1 : 2 * k + 1 < i
 ·rw [if_pos h1, if_pos (by omega)]
 ·rw [if_neg h1, if_neg (by omega)]
  by_cases h2 : 2 * k < i
  ·rw [if_pos h2, if_pos (by omega)]
  ·rw [if_neg h2, if_neg (by omega)]
theorem rowS_len (l : List UInt8) (m i : Nat) : (rowS l m i).length = m := by simp [rowS]
theorem rowS_get (l : List UInt8) (m i k : Nat) (h : k < m) : (rowS l m i)[k]? = some (.int .u8 ((bst l i k : Nat) : Int)) := by
 simp [rowS, h]
theorem rowS_set (l : List UInt8) (m i : Nat) : (rowS l m i).set (i / 2) (.int .u8 ((bst l (i + 1) (i / 2) : Nat) : Int)) = rowS l m (i + 1) := by
 apply List.ext_getElem?
 intro k
 by_cases hk : k < m
 ·rw [rowS_get l m (i + 1) k hk]
  by_cases e : i / 2 = k
  ·subst e
   rw [List.getElem?_set_self (by rw [rowS_len]; exact hk)]
  ·rw [List.getElem?_set_ne e, rowS_get l m i k hk, bst_other l i k (fun h => e h.symm)]
 ·rw [List.getElem?_eq_none (by rw [List.length_set, rowS_len]; omega), List.getElem?_eq_none (by rw [rowS_len]; omega)]
theorem rowS_zero (l : List UInt8) (m : Nat) : rowS l m 0 = List.replicate m (.int .u8 0) := by
 apply List.ext_getElem?
 intro k
 by_cases hk : k < m
 ·rw [rowS_get l m 0 k hk]
  have : bst l 0 k = 0 := by unfold bst; rw [if_neg (by omega), if_neg (by omega)]
  rw [this]
  simp [hk]
 ·rw [List.getElem?_eq_none (by rw [rowS_len]; omega), List.getElem?_eq_none (by simp; omega)]
/-- The bytes that digits say. -/
def dig8 (l : List UInt8) (m : Nat) : List UInt8 := (List.range m).map fun k => UInt8.ofNat (16 * nib l (2 * k) + nib l (2 * k + 1))
theorem hx_nib {c : UInt8} (h : 0 ≤ dv c) : hx (dv c).toNat = c := by
 rcases dv_of c with h1 | ⟨_, _, h3⟩
 ·omega
 ·exact h3
theorem hexL_dig8 : ∀ (m : Nat) (l : List UInt8), l.length = 2 * m → (∀ b ∈ l, 0 ≤ dv b) → hexL (dig8 l m) = l
 | 0, [], _, _ => rfl
 | 0, a :: l, h, _ => by simp at h
 | m + 1, [], h, _ => by simp at h
 | m + 1, [a], h, _ => by simp at h; omega
 | m + 1, a :: b :: l, h, hd => by
  have ih := hexL_dig8 m l (by simp at h; omega) (fun x hx => hd x (by simp [hx]))
  have e : dig8 (a :: b :: l) (m + 1) = UInt8.ofNat (16 * nib (a :: b :: l) 0 + nib (a :: b :: l) 1) :: dig8 l m := by
   unfold dig8
   rw [List.range_succ_eq_map, List.map_cons, List.map_map]
   congr 1
  have e2 : ∀ (x : UInt8) (t : List UInt8), hexL (x :: t) = hx (x.toNat / 16) :: hx (x.toNat % 16) :: hexL t := fun x t => by simp [hexL]
  have n0 : nib (a :: b :: l) 0 = (dv a).toNat := rfl
  have n1 : nib (a :: b :: l) 1 = (dv b).toNat := rfl
  have l0 := nib_lt (a :: b :: l) 0
  have l1 := nib_lt (a :: b :: l) 1
  have e3 : (UInt8.ofNat (16 * nib (a :: b :: l) 0 + nib (a :: b :: l) 1)).toNat = 16 * nib (a :: b :: l) 0 + nib (a :: b :: l) 1 := by
   rw [UInt8.toNat_ofNat']; omega
  rw [e, e2, ih, e3, show (16 * nib (a :: b :: l) 0 + nib (a :: b :: l) 1) / 16 = nib (a :: b :: l) 0 by omega, show (16 * nib (a :: b :: l) 0 + nib (a :: b :: l) 1) % 16 = nib (a :: b :: l) 1 by omega, n0, n1, hx_nib (hd a (by simp)), hx_nib (hd b (by simp))]
theorem rowS_end (l : List UInt8) (m : Nat) : rowS l m (2 * m) = Lib.byteCells (dig8 l m) := by
 unfold rowS dig8 Lib.byteCells
 rw [List.map_map]
 apply List.map_congr_left
 intro k hk
 have hk' : k < m := by simpa using hk
 have l0 := nib_lt l (2 * k)
 have l1 := nib_lt l (2 * k + 1)
 have e : bst l (2 * m) k = 16 * nib l (2 * k) + nib l (2 * k + 1) := by unfold bst; rw [if_pos (by omega)]
 rw [e]
 show Value.int .u8 _ = Value.int .u8 ((UInt8.ofNat (16 * nib l (2 * k) + nib l (2 * k + 1))).toNat : Int)
 rw [UInt8.toNat_ofNat', Nat.mod_eq_of_lt (by omega)]
/-- What readSum answers. -/
def SumR (line : ByteArray) (m : Int) (e : Ending) : Prop :=
 (∃ p : ByteArray, (p.size : Int) = m ∧ hexL p.data.toList = line.data.toList ∧ e = .returned (.tuple #[.string p, .nilIface])) ∨ ((∀ p : ByteArray, (p.size : Int) = m → hexL p.data.toList ≠ line.data.toList) ∧ ∃ (tp : TypeId) (q : Value), e = .returned (.tuple #[.string ⟨#[]⟩, .iface tp q]))
theorem noSum_len {line : ByteArray} {m : Nat} (h : line.size ≠ 2 * m) : ∀ p : ByteArray, (p.size : Int) = m → hexL p.data.toList ≠ line.data.toList := fun p hp e => by
 have := congrArg List.length e
 rw [hexL_len, Array.length_toList, Array.length_toList] at this
 have e1 : p.data.size = p.size := rfl
 have e2 : line.data.size = line.size := rfl
 omega
theorem noSum_digit {line : ByteArray} {m : Int} (i : Nat) (hi : i < line.size) (h : dv (line[i]'hi) < 0) : ∀ p : ByteArray, (p.size : Int) = m → hexL p.data.toList ≠ line.data.toList := fun p _ e => by
 have hk : i < line.data.toList.length := by rw [Array.length_toList]; exact hi
 have := hexL_dv p.data.toList (line[i]'hi) (by rw [e]; exact List.getElem_mem hk)
 omega
end Go.Proofs.YtkjdabnglcabiaaGreatDoor
/- impl.readSum, walked. -/
namespace Go.Proofs.YtkjdabnglcabiaaGreatDoor
open Go.RowKit Go.Shelf
theorem or_bits : ∀ a : Fin 16, ∀ v : Fin 16, bits BinOp.or IntKind.u8 ((a.val : Int) * 16) (v.val : Int) = ((16 * a.val + v.val : Nat) : Int) := by decide
set_option maxRecDepth 100000 in
set_option maxHeartbeats 1000000 in
theorem readSum_any (line : ByteArray) (m : Nat) (hm : 1 ≤ m ∧ m ≤ 8) (hs : line.size ≤ 281474976710656) (w : World) (hw : Errs w) :
  Calls Tryz.prog 143 #[.string line, .int .i64 (m : Int)] w fun e w' => SumR line m e ∧ Below w.heap.size w w' := by
 obtain ⟨tn, pn, hns⟩ := hw.sum
 have hnl : 5 < w.heap.size := World.block_lt_of_cell? w ⟨5, 0, none⟩ hns
 clear hw
 obtain ⟨i0, hi, hz0, hz1, hz2⟩ := info_parts Tryz.infoByte
 by_cases h2 : line.size = 2 * m
 ·have h2' : (line.size : Int) = 2 * (m : Int) := by omega
  obtain ⟨M, hM⟩ : ∃ M, M = madeCells (Value.int .u8 0).cells (((m : Nat) : Int).toNat * i0.size) := ⟨_, rfl⟩
  have hMs : M.size = m := by rw [hM, size_madeCells, hz1]; simp
  have hMv : ∀ j, j < m → M[j]? = some (.int .u8 0) := fun j hj => by
   rw [hM, hz1]; simp [madeCells, Value.cells, hj, Nat.mod_one]
  have hmk : ∀ W : World, (Instr.makeSlice 22 (.int .i64 (m : Int)) (.int .i64 (m : Int))).run Tryz.prog W = .ok (.slice (some ⟨W.heap.size, 0, none⟩) m m) (W.alloc (.cells M 5)) := fun W => by
   have h := run_make (P := Tryz.prog) W 22 5 i0 (.int .u8 0) Tryz.underlying22 hi hz0 .i64 .i64 (m : Int) (m : Int) (by omega) (by omega) (by rw [hz2]; omega) (by omega)
   rw [← hM] at h
   simpa using h
  have hMl : M.toList = rowS line.data.toList m 0 := by
   rw [rowS_zero]
   apply List.ext_getElem?
   intro k
   by_cases hk : k < m
   ·have := hMv k hk
    rw [Array.getElem?_toList, this]
    simp [hk]
   ·rw [List.getElem?_eq_none (by rw [Array.length_toList]; omega), List.getElem?_eq_none (by simp; omega)]
  have ho : (w.alloc (.cells M 5)).ownsRow w.heap.size 5 1 (.slice (some ⟨w.heap.size, 0, none⟩) m m) m (rowS line.data.toList m 0) := by
   have := World.ownsRow_lit (base := w.heap.size) (e := 5) (size := 1) w M m (Nat.le_refl _) (by unfold maxLen; omega) (by omega)
   rw [hMl] at this
   simpa using this
  have HO := hid ho
  have hm1 : (2 : Int) * (m : Int) ≤ 16 := by omega
  have hm0 : (0 : Int) ≤ (m : Int) := by omega
  clear ho hM hMv hMl hMs
  go_enter Tryz.func143, Tryz.ntmps143
  go_wp2
  go_loopw [19] (fun i' wr => ∃ i : Nat, i ≤ 2 * m ∧ i' = .int .i64 i ∧ (∀ b ∈ line.data.toList.take i, 0 ≤ dv b) ∧ wr.ownsRow w.heap.size 5 1 (.slice (some ⟨w.heap.size, 0, none⟩) m m) m (rowS line.data.toList m i) ∧ Below w.heap.size w wr) (fun i' _ => 2 * m - (intOf i').toNat)
  case atStart => exact ⟨0, Nat.zero_le _, rfl, by simp, HO.out, (Below.refl _ _).alloc (Nat.le_refl _) _⟩
  case round =>
   obtain ⟨i, hil, rfl, hall, hr, hb⟩ := hrel
   by_cases hlt : i < 2 * m
   ·have hsz : i < line.size := by omega
    have hi0 : (0 : Int) ≤ (i : Int) := by omega
    have hi1 : (i : Int) < (line.size : Int) := by omega
    have hi2 : (i : Int) < 2 * (m : Int) := by omega
    have hlen : i < line.data.toList.length := by rw [Array.length_toList]; exact hsz
    have hgd : line.data.toList.getD i 0 = line[i] := getD_at line i hsz
    have hdv := dv_of (line[i]'hsz)
    have HIX := hid fun W => indexByte_any ⟨#[48, 49, 50, 51, 52, 53, 54, 55, 56, 57, 97, 98, 99, 100, 101, 102]⟩ ((line[i]'hsz).toNat : Int) W
    have e8 : ((line[i]'hsz).toNat : Int).toNat.toUInt8 = line[i]'hsz := UInt8.toNat_inj.1 (by rw [Int.toNat_natCast]; show (UInt8.ofNat _).toNat = _; rw [UInt8.toNat_ofNat']; have := (line[i]'hsz).toNat_lt; omega)
    rw [e8] at HIX
    change Hid (∀ W, Calls Tryz.prog 159 #[.string ⟨#[48, 49, 50, 51, 52, 53, 54, 55, 56, 57, 97, 98, 99, 100, 101, 102]⟩, .int .u8 ((line[i]'hsz).toNat : Int)] W fun e w' => e = .returned (.int .i64 (dv (line[i]'hsz))) ∧ w' = W) at HIX
    have hcs := hb.cell (p := ⟨5, 0, none⟩) hnl
    rw [hns] at hcs
    have HB := hid hb
    rcases hdv with hd | ⟨hd0, hd16, _⟩
    ·have HN : Hid (SumR line m (.returned (.tuple #[.string ⟨#[]⟩, .iface tn pn]))) := .inr ⟨noSum_digit i hsz (by omega), _, _, rfl⟩
     rw [hd] at HIX
     clear hall hr hb hgd HO e8
     go_wp2_with (go_at_call 159; refine (HIX.out _).mono ?_; rintro e w' ⟨rfl, rfl⟩)
     go_region
     all_goals
      go_wp2
      go_ret2
      exact ⟨HN.out, HB.out.drew⟩
    ·obtain ⟨v, hv⟩ := Int.eq_ofNat_of_zero_le hd0
     have hv16 : v < 16 := by omega
     have hnib : nib line.data.toList i = v := by unfold nib; rw [hgd, hv]; simp
     have HALL : Hid (∀ b ∈ line.data.toList.take (i + 1), 0 ≤ dv b) := fun b hb => by
      rw [List.take_succ_eq_append_getElem hlen] at hb
      rcases List.mem_append.1 hb with hb | hb
      ·exact hall b hb
      ·simp only [List.mem_cons, List.not_mem_nil, or_false] at hb
       rw [hb]
       show 0 ≤ dv (line[i]'hsz)
       omega
     have hold := bst_old line.data.toList i
     have hnew := bst_new line.data.toList i
     have hset := rowS_set line.data.toList m i
     rw [hnib] at hnew
     rw [hnew] at hset
     have hq : i / 2 < m := by omega
     have hcell := (hr.cellAt (i / 2) (by omega)).trans (rowS_get line.data.toList m i (i / 2) hq)
     have hfz := hr.frozenAt (i / 2)
     have HST := hid fun x => (hr.stored (i / 2) x).1
     have HSET := hid hset
     rw [hv] at HIX
     generalize bst line.data.toList i (i / 2) = a at *
     obtain ⟨q, hqe⟩ : ∃ q : Nat, q = i / 2 := ⟨_, rfl⟩
     rw [← hqe] at hq hcell hfz HST HSET
     have hq1 : Int.tdiv (i : Int) 2 = (q : Int) := by rw [Int.tdiv_eq_ediv_of_nonneg (by omega)]; omega
     have hq2 : (i : Int) / 2 = (q : Int) := by omega
     have hq3 : (q : Int) < (m : Int) := by omega
     clear hall hr hb hgd HO e8 hnew hset hqe hnib
     go_wp2_with (go_at_call 159; refine (HIX.out _).mono ?_; rintro e w' ⟨rfl, rfl⟩)
     have hor : bits BinOp.or IntKind.u8 ((a : Int) * 16) (v : Int) = ((16 * a + v : Nat) : Int) := or_bits ⟨a, hold⟩ ⟨v, hv16⟩
     rw [hor]
     refine ⟨⟨i + 1, by omega, by go_num, HALL.out, ?_, HB.out.setCell (p := ⟨w.heap.size, q, none⟩) (Nat.le_refl _) _⟩, by simp [intOf]; omega⟩
     have hst := HST.out (.int .u8 ((16 * a + v : Nat) : Int))
     rw [HSET.out] at hst
     exact hst
   ·obtain rfl : i = 2 * m := by omega
    rw [rowS_end] at hr
    have hcv := conv_bytes hr
    have hlt' : ¬ (((2 * m : Nat) : Int) < 2 * (m : Int)) := by omega
    have hlen : line.data.toList.length = 2 * m := by rw [Array.length_toList]; exact h2
    have HE : Hid (SumR line m (.returned (.tuple #[.string ⟨(dig8 line.data.toList m).toArray⟩, .nilIface]))) := by
     refine .inl ⟨_, ?_, ?_, rfl⟩
     ·show ((dig8 line.data.toList m).toArray.size : Int) = m
      rw [List.size_toArray]; simp [dig8]
     ·refine hexL_dig8 m line.data.toList hlen (fun b hb => hall b ?_)
      rwa [List.take_of_length_le (by omega)]
    have HB := hid hb
    clear hall hr hb HO hlt
    generalize dig8 line.data.toList m = dd at *
    go_wp2
    go_ret2
    exact ⟨HE.out, HB.out⟩
 ·have HN : Hid (SumR line m (.returned (.tuple #[.string ⟨#[]⟩, .iface tn pn]))) := .inr ⟨noSum_len h2, _, _, rfl⟩
  have h2' : ¬ ((line.size : Int) = 2 * (m : Int)) := by omega
  have hm1 : (2 : Int) * (m : Int) ≤ 16 := by omega
  go_enter Tryz.func143, Tryz.ntmps143
  go_wp2_with fail
  go_region
  all_goals
   go_wp2
   go_ret2
   exact ⟨HN.out, (Below.refl _ _).drew⟩
end Go.Proofs.YtkjdabnglcabiaaGreatDoor
/- strings.Cut at a newline. -/
namespace Go.Proofs.YtkjdabnglcabiaaGreatDoor
open Go.RowKit Go.Shelf
/-- What strings.Cut answers of a text at its first newline. -/
def CutR (s : ByteArray) (e : Ending) : Prop :=
 (∃ a r : ByteArray, s.data.toList = a.data.toList ++ 10 :: r.data.toList ∧ (∀ b ∈ a.data.toList, b ≠ 10) ∧ e = .returned (.tuple #[.string a, .string r, .bool true])) ∨ ((∀ b ∈ s.data.toList, b ≠ 10) ∧ e = .returned (.tuple #[.string s, .string ⟨#[]⟩, .bool false]))
theorem cut_yes (s : ByteArray) (i : Nat) (h : Lib.indexByte s.data.toList 10 = i) : i < s.size ∧ CutR s (.returned (.tuple #[.string (s.extract 0 i), .string (s.extract (i + 1) s.size), .bool true])) := by
 obtain ⟨h1, h2⟩ := Lib.indexByte_some h
 obtain ⟨hi, hg⟩ := List.getElem?_eq_some_iff.1 h1
 have hi' : i < s.size := by rw [Array.length_toList] at hi; exact hi
 have hsl : s.data.toList.length = s.size := by rw [Array.length_toList]; rfl
 refine ⟨hi', .inl ⟨_, _, ?_, ?_, rfl⟩⟩
 ·rw [ext_list, ext_list]
  simp only [List.drop_zero, Nat.sub_zero]
  rw [List.take_of_length_le (i := s.size - (i + 1)) (by rw [List.length_drop]; omega), ← hg, ← List.drop_eq_getElem_cons hi, List.take_append_drop]
 ·intro b hb hb10
  rw [ext_list] at hb
  simp only [List.drop_zero, Nat.sub_zero] at hb
  obtain ⟨k, hk, e⟩ := List.getElem_of_mem hb
  rw [List.length_take] at hk
  rw [List.getElem_take] at e
  exact h2 k (by omega) (by rw [List.getElem?_eq_getElem (by omega), e, hb10])
theorem cut_no (s : ByteArray) (h : Lib.indexByte s.data.toList 10 = -1) : CutR s (.returned (.tuple #[.string s, .string ⟨#[]⟩, .bool false])) := by
 refine .inr ⟨fun b hb hb10 => ?_, rfl⟩
 obtain ⟨k, hk, e⟩ := List.getElem_of_mem hb
 exact Lib.indexByte_none h k (by rw [List.getElem?_eq_getElem hk, e, hb10])
set_option maxRecDepth 100000 in
set_option maxHeartbeats 1000000 in
theorem sliteCut_any (s : ByteArray) (hs : s.size ≤ 281474976710656) (w : World) : Calls Tryz.prog 141 #[.string s, .string ⟨#[10]⟩] w fun e w' => CutR s e ∧ Below w.heap.size w w' := by
 have HI := hid fun W => index_one s 10 W
 have hge := Lib.indexByte_ge s.data.toList 10
 rcases Classical.em (Lib.indexByte s.data.toList 10 < 0) with h | h
 ·have e : Lib.indexByte s.data.toList 10 = -1 := by omega
  have HN := hid (cut_no s e)
  rw [e] at HI
  clear hge h e
  go_enter Tryz.func141, Tryz.ntmps141
  go_wp2_with (go_at_call 156; refine (HI.out _).mono ?_; rintro e w' ⟨rfl, rfl⟩)
  go_ret3
  exact ⟨HN.out, Below.refl _ _⟩
 ·obtain ⟨i, hi⟩ := Int.eq_ofNat_of_zero_le (show 0 ≤ Lib.indexByte s.data.toList 10 by omega)
  obtain ⟨hlt, hy⟩ := cut_yes s i hi
  have HY := hid hy
  rw [hi] at HI
  clear hge h hi hy
  have h0 : (0 : Int) ≤ (i : Int) := by omega
  have h1 : (i : Int) ≤ (s.size : Int) := by omega
  have h2 : (i : Int) + 1 ≤ (s.size : Int) := by omega
  have ew : IntKind.i64.wrap ((i : Int) + 1) = (i : Int) + 1 := by rw [IntKind.wrap_i64]; omega
  go_enter Tryz.func141, Tryz.ntmps141
  go_wp2_with (go_at_call 156; refine (HI.out _).mono ?_; rintro e w' ⟨rfl, rfl⟩)
  go_quiet (fail)
  go_wp2
  go_ret3
  exact ⟨HY.out, ⟨rfl, rfl, rfl, Nat.le_refl _, fun _ _ => rfl⟩⟩
set_option maxRecDepth 100000 in
set_option maxHeartbeats 400000 in
theorem stringsCut_any (s : ByteArray) (hs : s.size ≤ 281474976710656) (w : World) : Calls Tryz.prog 119 #[.string s, .string ⟨#[10]⟩] w fun e w' => CutR s e ∧ Below w.heap.size w w' := by
 have HC := hid (sliteCut_any s hs w)
 go_enter Tryz.func119, Tryz.ntmps119
 go_wp2_with fail
 refine HC.out.mono ?_
 rintro e w1 ⟨hc, hb⟩
 have HB := hid hb
 have HCR := hid hc
 clear hb
 rcases hc with ⟨a, r, _, _, rfl⟩ | ⟨_, rfl⟩
 ·go_wp2
  go_ret3
  exact ⟨HCR.out, HB.out⟩
 ·go_wp2
  go_ret3
  exact ⟨HCR.out, HB.out⟩
end Go.Proofs.YtkjdabnglcabiaaGreatDoor
/- impl.readLine: one line into a list. -/
namespace Go.Proofs.YtkjdabnglcabiaaGreatDoor
open Go.RowKit Go.Shelf
set_option maxRecDepth 100000 in
set_option maxHeartbeats 1000000 in
theorem readLine_first (b : Nat) (n : Int) (v : Value) (text : ByteArray) (m : Int) (hs : text.size ≤ 281474976710656) (w : World) (hw : Errs w) (hx : LBox w b n v) :
  Calls Tryz.prog 120 #[.pointer (some ⟨b, 0, none⟩), .int .i64 0, .string text, .int .i64 m] w fun e w' =>
   ((∃ k : Nat, k ≤ 3000 ∧ [115, 105, 122, 101, 32] ++ Lib.decDigits k = text.data.toList ∧ e = .returned .nilIface ∧ LBox w' b k v) ∨ ((∀ k : Nat, k ≤ 3000 → [115, 105, 122, 101, 32] ++ Lib.decDigits k ≠ text.data.toList) ∧ ∃ (tp : TypeId) (p : Value), e = .returned (.iface tp p))) ∧ Below b w w' := by
 have HS := hid (readSize_any text hs w hw)
 have HX := hid hx
 have hbl := hx.lt
 clear hw hx
 go_enter Tryz.func120, Tryz.ntmps120
 go_wp2_with fail
 refine HS.out.mono ?_
 rintro e w1 ⟨hr, hb⟩
 have x1 := HX.out.below hb
 have HB := hid (hb.mono (Nat.le_of_lt hbl))
 have c0 := x1.c0
 have f0 := x1.fz 0
 have HX0 := hid fun k : Int => x1.set0 k
 clear hb x1
 rcases hr with ⟨k, hk, he, rfl⟩ | ⟨hno, tp, p, rfl⟩
 ·have HE := hid he
  clear he
  go_wp2
  go_ret
  exact ⟨.inl ⟨k, hk, HE.out, rfl, HX0.out k⟩, HB.out.setCell (p := ⟨b, 0, none⟩) (Nat.le_refl _) _⟩
 ·have HN := hid hno
  clear hno
  go_wp2
  go_ret
  exact ⟨.inr ⟨HN.out, _, _, rfl⟩, HB.out⟩
set_option maxRecDepth 100000 in
set_option maxHeartbeats 1000000 in
theorem readLine_next (b : Nat) (n : Int) (v : Value) (ss : List ByteArray) (line : Int) (hline : 1 ≤ line) (text : ByteArray) (m : Nat) (hm : 1 ≤ m ∧ m ≤ 8) (hs : text.size ≤ 281474976710656) (w : World) (hw : Errs w) (hx : LBox w b n v) (hrow : w.ownsRow (b + 1) 9 1 v ss.length (ss.map Value.string)) (hlen : ss.length ≤ 375) :
  Calls Tryz.prog 120 #[.pointer (some ⟨b, 0, none⟩), .int .i64 line, .string text, .int .i64 (m : Int)] w fun e w' =>
   ((∃ (p : ByteArray) (v' : Value), ss.length < 375 ∧ (p.size : Int) = m ∧ hexL p.data.toList = text.data.toList ∧ e = .returned .nilIface ∧ LBox w' b n v' ∧ w'.ownsRow (b + 1) 9 1 v' (ss.length + 1) ((ss ++ [p]).map Value.string)) ∨ ((ss.length = 375 ∨ ∀ p : ByteArray, (p.size : Int) = m → hexL p.data.toList ≠ text.data.toList) ∧ ∃ (tp : TypeId) (p : Value), e = .returned (.iface tp p))) ∧ Below b w w' := by
 obtain ⟨i0, hi, hz0, hz1, hz2⟩ := info_parts Tryz.info9
 have hl0 : ¬ (line = 0) := by omega
 have hbl := hx.lt
 have HX := hid hx
 have HROW := hid hrow
 obtain ⟨tn, pn, hns⟩ := hw.many
 have HS := hid fun W (h : Errs W) => readSum_any text m hm hs W h
 have HW := hid hw
 obtain ⟨a, ca, rfl, _⟩ := row_form hrow
 have c1 := hx.c1
 clear hw hx hrow
 by_cases h375 : ss.length = 375
 ·have h375' : (ss.length : Int) = 375 := by omega
  clear HS HW HX HROW
  go_enter Tryz.func120, Tryz.ntmps120
  go_wp2
  go_ret
  exact ⟨.inr ⟨.inl h375, _, _, rfl⟩, Below.refl _ _⟩
 ·have h375' : ¬ ((ss.length : Int) = 375) := by omega
  go_enter Tryz.func120, Tryz.ntmps120
  go_wp2_with fail
  refine (HS.out _ HW.out).mono ?_
  rintro e w1 ⟨hr, hb⟩
  have x1 := HX.out.below hb
  have r1 := Below.row hb HROW.out
  have HB := hid (hb.mono (Nat.le_of_lt hbl))
  have hs1 := hb.size
  rcases hr with ⟨p, hp, hpe, rfl⟩ | ⟨hno, tp, q, rfl⟩
  ·have d1 := x1.c1
   have g1 := x1.fz 1
   have HP := hid hpe
   have HX1 := hid x1
   clear hb c1 x1 hpe HX HROW hns
   go_wp2_with (at_builtin; refine wpList_append_own _ rfl _ _ 24 rfl (b + 1) 9 i0 (.string ⟨#[]⟩) 1 16 Tryz.underlying24 hi hz0 hz1 hz2 rfl (by decide) _ _ _ rfl (r1.alloc _) ⟨_, 0, none⟩ 1 1 [.string p] rfl rfl (cell_one_new _ _ _) (by simp [Value.oneCell']) (by unfold maxLen; omega) (by omega) (by simp; omega) ?_; intro v' w2 hown' hgrow _; obtain ⟨a2, c2, rfl, _⟩ := row_form hown'; obtain ⟨hbx4, hbx5, hrow5, hbl5, hkeep⟩ := lbox_stored HX1.out r1 (by omega) (by omega) hown' hgrow; have d2 := hbx4.c1; have g2 := hbx4.fz 1; have H5 := hid hbx5; have H6 := hid hrow5; have H7 := hid hbl5; clear hbx4 hbx5 hrow5 hbl5 hkeep hown' hgrow)
   go_ret
   refine ⟨.inl ⟨p, _, by omega, hp, HP.out, rfl, H5.out, ?_⟩, HB.out.trans H7.out⟩
   have := H6.out
   simpa using this
  ·have HN := hid hno
   clear hb c1 x1 hno HX HROW hns r1
   go_wp2
   go_ret
   exact ⟨.inr ⟨.inr HN.out, _, _, rfl⟩, HB.out⟩
end Go.Proofs.YtkjdabnglcabiaaGreatDoor
/- impl.readLines: line by line. -/
namespace Go.Proofs.YtkjdabnglcabiaaGreatDoor
open Go.RowKit Go.Shelf
def strSz : Value → Nat
 | .string s => s.size
 | _ => 0
/-- What readLines answers. -/
def LinesR (s : ByteArray) (m : Int) (w : World) (e : Ending) (w' : World) : Prop :=
 (∃ (n : Int) (ss : List ByteArray) (v : Value), okL n ss m = true ∧ formR n ss m = s ∧ e = .returned (.tuple #[.agg #[.int .i64 n, v], .nilIface]) ∧ w'.ownsRow w.heap.size 9 1 v ss.length (ss.map Value.string)) ∨ (NoForm s m ∧ ∃ a : Addr, e = .returned (.tuple #[.agg #[.int .i64 0, .slice none 0 0], .iface 143 (.pointer (some a))]))
/-- What has been read when k lines have come. -/
def Sofar (s : ByteArray) (m : Nat) (k : Nat) (q : ByteArray) (n : Int) (ss : List ByteArray) (v : Value) : Prop :=
 (k = 0 ∧ q = s ∧ n = 0 ∧ ss = [] ∧ v = .slice none 0 0) ∨ (1 ≤ k ∧ k = ss.length + 1 ∧ ss.length ≤ 375 ∧ (0 ≤ n ∧ n ≤ 3000) ∧ (∀ p ∈ ss, (p.size : Int) = m) ∧ s.data.toList = formL n.toNat ss ++ q.data.toList)
theorem cut_size {q a r : ByteArray} (h : q.data.toList = a.data.toList ++ 10 :: r.data.toList) : a.size ≤ q.size ∧ r.size < q.size := by
 have := congrArg List.length h
 rw [List.length_append, List.length_cons, Array.length_toList, Array.length_toList, Array.length_toList] at this
 have e1 : q.data.size = q.size := rfl
 have e2 : a.data.size = a.size := rfl
 have e3 : r.data.size = r.size := rfl
 omega
theorem form_next (n : Nat) (ss : List ByteArray) (p : ByteArray) (r : List UInt8) : formL n (ss ++ [p]) ++ r = formL n ss ++ (hexL p.data.toList ++ 10 :: r) := by
 unfold formL rowsL
 rw [List.flatMap_append]
 simp
theorem empty_of {q : ByteArray} (h : q.size = 0) : q = ⟨#[]⟩ := by
 rcases q with ⟨⟨l⟩⟩
 have : l.length = 0 := h
 rw [List.length_eq_zero_iff.1 this]
theorem LBox.trans2 {W W' : World} {b B : Nat} {n : Int} {v : Value} (h : LBox W b n v) (hb : Below B W W') (hB : b < B) : LBox W' b n v := (hb.block b hB).trans h
theorem data_ne {q : ByteArray} (h : q.size ≠ 0) : q.data.toList ≠ [] := fun e => h (by
 have := congrArg List.length e
 rw [Array.length_toList] at this
 exact this)
theorem sofar_end {s q : ByteArray} {m k : Nat} {n : Int} {ss : List ByteArray} {v : Value} (h : Sofar s m k q n ss v) (hk : k = 0 ∨ q.size ≠ 0) (hno : ∀ b ∈ q.data.toList, b ≠ 10) : NoForm s m := by
 rcases h with ⟨_, rfl, _⟩ | ⟨hk1, _, _, _, _, hf⟩
 ·exact noForm_end0 hno
 ·rcases hk with h0 | hq
  ·omega
  ·exact noForm_end hf (data_ne hq) hno
theorem sofar_done {s : ByteArray} {m k : Nat} {n : Int} {ss : List ByteArray} {v : Value} (hm : 1 ≤ m ∧ m ≤ 8) (hk : 1 ≤ k) (h : Sofar s m k ⟨#[]⟩ n ss v) : okL n ss m = true ∧ formR n ss m = s := by
 rcases h with ⟨h0, _⟩ | ⟨_, _, hl, hn, hall, hf⟩
 ·omega
 ·have hok : okL n ss m = true := okL_of (by simp [isW]; omega) hn hl hall
  refine ⟨hok, (formR_iff hok).2 ?_⟩
  rw [hf]
  simp
theorem step_line (z : Int) (s q : ByteArray) (m k : Nat) (hz : z = (k : Int)) (n : Int) (ss : List ByteArray) (v : Value) (b : Nat) (hm : 1 ≤ m ∧ m ≤ 8) (hsf : Sofar s m k q n ss v) (hk : k = 0 ∨ q.size ≠ 0) (hs : q.size ≤ 281474976710656) (a r : ByteArray) (hqa : q.data.toList = a.data.toList ++ 10 :: r.data.toList) (ha : ∀ b ∈ a.data.toList, b ≠ 10) (w1 : World) (hE : Errs w1) (hx : LBox w1 b n v) (hrow : w1.ownsRow (b + 1) 9 1 v ss.length (ss.map Value.string)) :
  Calls Tryz.prog 120 #[.pointer (some ⟨b, 0, none⟩), .int .i64 z, .string a, .int .i64 (m : Int)] w1 fun e w2 => ((e = .returned .nilIface ∧ ∃ (n' : Int) (v' : Value) (ss' : List ByteArray), LBox w2 b n' v' ∧ w2.ownsRow (b + 1) 9 1 v' ss'.length (ss'.map Value.string) ∧ Sofar s m (k + 1) r n' ss' v') ∨ (NoForm s m ∧ ∃ (tp : TypeId) (p : Value), e = .returned (.iface tp p))) ∧ Below b w1 w2 := by
 have hsz := cut_size hqa
 subst hz
 rcases hsf with ⟨rfl, rfl, rfl, rfl, rfl⟩ | ⟨hk1, hkk, hl, hn, hall, hf⟩
 ·refine (readLine_first b 0 (.slice none 0 0) a m (by omega) w1 hE hx).mono ?_
  rintro e w2 ⟨h, hb⟩
  refine ⟨?_, hb⟩
  rcases h with ⟨j, hj, hja, rfl, hx2⟩ | ⟨hno, tp, p, rfl⟩
  ·refine .inl ⟨rfl, j, _, [], hx2, World.ownsRow_nil _ _ _ _, .inr ⟨by omega, rfl, by simp, by omega, by simp, ?_⟩⟩
   rw [hqa, ← hja]
   simp [formL, headL, rowsL]
  ·exact .inr ⟨noForm_head hqa ha hno, _, _, rfl⟩
 ·have hq : q.size ≠ 0 := by rcases hk with h0 | h0 <;> omega
  refine (readLine_next b n v ss (k : Int) (by omega) a m hm (by omega) w1 hE hx hrow hl).mono ?_
  rintro e w2 ⟨h, hb⟩
  refine ⟨?_, hb⟩
  rcases h with ⟨p, v', hlt, hp, hpe, rfl, hx2, hr2⟩ | ⟨hno, tp, p, rfl⟩
  ·refine .inl ⟨rfl, n, v', ss ++ [p], hx2, by simpa using hr2, .inr ⟨by omega, by simp; omega, by simp; omega, hn, ?_, ?_⟩⟩
   ·intro x hx'
    rcases List.mem_append.1 hx' with h | h
    ·exact hall x h
    ·simp only [List.mem_cons, List.not_mem_nil, or_false] at h
     rw [h]; exact hp
   ·rw [hf, hqa, form_next, hpe]
  ·refine .inr ⟨?_, _, _, rfl⟩
   rcases hno with h375 | hno
   ·exact noForm_many hf (data_ne hq) h375
   ·exact noForm_sum (by rw [hf, hqa]) ha hno
set_option maxRecDepth 100000 in
set_option maxHeartbeats 2000000 in
theorem readLines_any (s : ByteArray) (m : Nat) (hm : 1 ≤ m ∧ m ≤ 8) (hs : s.size ≤ 281474976710656) (w : World) (hw : Errs w) :
  Calls Tryz.prog 102 #[.string s, .int .i64 (m : Int)] w fun e w' => LinesR s m w e w' ∧ Below w.heap.size w w' := by
 have HW := hid hw
 have br : LBox ((w.alloc (.cells #[.int .i64 0, .slice none 0 0] 54)).alloc (.cells #[.int .i64 0, .slice none 0 0] 54)) w.heap.size 0 (.slice none 0 0) := LBox.alloc (World.alloc_heap_new w _) _
 have bx : LBox ((w.alloc (.cells #[.int .i64 0, .slice none 0 0] 54)).alloc (.cells #[.int .i64 0, .slice none 0 0] 54)) (w.heap.size + 1) 0 (.slice none 0 0) := by
  have := World.alloc_heap_new (w.alloc (.cells #[.int .i64 0, .slice none 0 0] 54)) (.cells #[.int .i64 0, .slice none 0 0] 54)
  rwa [World.size_alloc] at this
 have hb0 := ((Below.refl w.heap.size w).alloc (Nat.le_refl _) (.cells #[.int .i64 0, .slice none 0 0] 54)).alloc (by simp) (.cells #[.int .i64 0, .slice none 0 0] 54)
 have HBR := hid br
 have HBX := hid bx
 have HB0 := hid hb0
 have HG0 : Hid (0 < w.heap.size) := by obtain ⟨_, _, h⟩ := hw.noEnd; exact World.block_lt_of_cell? w ⟨0, 0, none⟩ h
 clear hw br bx hb0
 go_enter Tryz.func102, Tryz.ntmps102
 go_wp2
 go_loopw [7, 8] (fun rest line wr => ∃ (q : ByteArray) (k : Nat) (n : Int) (v : Value) (ss : List ByteArray), rest = .string q ∧ line = .int .i64 (k : Int) ∧ q.size ≤ s.size ∧ LBox wr w.heap.size 0 (.slice none 0 0) ∧ LBox wr (w.heap.size + 1) n v ∧ wr.ownsRow (w.heap.size + 1 + 1) 9 1 v ss.length (ss.map Value.string) ∧ Below w.heap.size w wr ∧ Sofar s m k q n ss v) (fun rest _ _ => strSz rest)
 case atStart => exact ⟨s, 0, 0, _, [], rfl, rfl, Nat.le_refl _, HBR.out, HBX.out, World.ownsRow_nil _ _ _ _, HB0.out, .inl ⟨rfl, rfl, rfl, rfl, rfl⟩⟩
 case round =>
  clear HBR HBX HB0
  obtain ⟨q, k, n, v, ss, rfl, rfl, hq, hr, hx, hrow, hb, hsf⟩ := hrel
  by_cases hgo : k = 0 ∨ q.size ≠ 0
  ·have hwr : w.heap.size + 1 < wr.heap.size := hx.lt
   have HE := hid (HW.out.below hb)
   have HC := hid (stringsCut_any q (by omega) wr)
   obtain ⟨te, pe, hce⟩ := HE.out.noEnd
   have HR := hid hr
   have HX := hid hx
   have HROW := hid hrow
   have HB := hid hb
   have HNE := hid (sofar_end hsf hgo)
   have HST := hid fun z hz a r h1 h2 w1 h3 h4 h5 => step_line z s q m k hz n ss v (w.heap.size + 1) hm hsf hgo (by omega) a r h1 h2 w1 h3 h4 h5
   have hk9 : k ≤ 376 := by rcases hsf with h | h <;> omega
   clear hr hx hrow hb hsf
   have hcond : (k = 0 ∧ ((k : Int) == 0) = true) ∨ (((k : Int) == 0) = false ∧ (q.toList == []) = false) := by
    by_cases h0 : k = 0
    ·exact .inl ⟨h0, by simp [h0]⟩
    ·refine .inr ⟨by simpa using h0, ?_⟩
     have := data_ne (hgo.resolve_left h0)
     rw [ByteArray.toList_eq]
     simpa using this
   clear hgo
   rcases hcond with ⟨rfl, hc0⟩ | ⟨hc0, hc1⟩
   all_goals
    go_wp2_with fail
    refine HC.out.mono ?_
    rintro e w1 ⟨hc, hb1⟩
    have HR1 := hid (HR.out.below hb1)
    have HX1 := hid (HX.out.below hb1)
    have HROW1 := hid (Below.row hb1 HROW.out)
    have HB1 := hid (HB.out.trans (hb1.mono HB.out.size))
    have HE1 := hid (HE.out.below hb1)
    have hce1 := cell_kept hb1 hce
    clear hb1 hce HR HX HROW HB HE HC
    rcases hc with ⟨a, r, hqa, ha, rfl⟩ | ⟨hno, rfl⟩
    ·have hsz := cut_size hqa
     have HL := hid fun z hz => HST.out z hz a r hqa ha w1 HE1.out HX1.out HROW1.out
     clear hqa ha hce1 HST HNE
     go_wp2_with fail
     refine (HL.out _ ?hz).mono ?_
     case hz => simp
     rintro e w2 ⟨hl, hb2⟩
     have HR2 := hid (LBox.trans2 HR1.out hb2 (by omega))
     have HB2 := hid (HB1.out.trans (hb2.mono (by omega)))
     clear hb2 HR1 HX1 HROW1 HE1
     rcases hl with ⟨rfl, n', v', ss', hx2, hrow2, hsf2⟩ | ⟨hno, tp, p, rfl⟩
     ·have H1 := hid hx2
      have H2 := hid hrow2
      have H3 := hid hsf2
      clear hx2 hrow2 hsf2
      go_wp2
      exact ⟨⟨r, _, n', v', ss', rfl, by go_num, by omega, HR2.out, H1.out, H2.out, HB2.out, H3.out⟩, by simp [strSz]; omega⟩
     ·have HN := hid hno
      have ra0 := fun o => (HR2.out.alloc o).c0
      have ra1 := fun o => (HR2.out.alloc o).c1
      have raf0 := fun o => (HR2.out.alloc o).fz 0
      have rb : ∀ o, LBox ((w2.alloc o).setCell ⟨w.heap.size, 0, none⟩ (.int .i64 0)) w.heap.size 0 (.slice none 0 0) := fun o => (HR2.out.alloc o).set0 _
      have rb1 := fun o => (rb o).c1
      have rbf1 := fun o => (rb o).fz 1
      have rc := fun o => (rb o).set1 (.slice none 0 0)
      have rc0 := fun o => (rc o).c0
      have rc1 := fun o => (rc o).c1
      have HB3 := hid fun o => ((HB2.out.alloc HB2.out.size o).setCell (p := ⟨w.heap.size, 0, none⟩) (Nat.le_refl _) (.int .i64 0)).setCell (p := ⟨w.heap.size, 1, none⟩) (Nat.le_refl _) (.slice none 0 0)
      clear hno rb rc
      go_wp2
      exact bodyPost_ret (v := .tuple #[.agg #[.int .i64 0, .slice none 0 0], .iface 143 (.pointer (some ⟨w2.heap.size, 0, none⟩))]) (by simp [results, Tryz.results102, go_sem, rc0, rc1]) rfl ⟨.inr ⟨HN.out, _, rfl⟩, HB3.out _⟩
    ·have HN := hid (HNE.out hno)
     have r0 := HR1.out.c0
     have r1 := HR1.out.c1
     have rf0 := HR1.out.fz 0
     have y8 : LBox (w1.setCell ⟨w.heap.size, 0, none⟩ (.int .i64 0)) w.heap.size 0 (.slice none 0 0) := HR1.out.set0 _
     have s1 := y8.c1
     have sf1 := y8.fz 1
     have hg0 : 0 < w.heap.size := HG0.out
     have k2 : ((w1.setCell ⟨w.heap.size, 0, none⟩ (.int .i64 0)).setCell ⟨w.heap.size, 1, none⟩ (.slice none 0 0)).cell? ⟨0, 0, none⟩ = some (.iface te pe) := by
      rw [((grownBy_setCellAt _ w.heap.size 1 (.slice none 0 0)).cell_far ⟨0, 0, none⟩ (by have := (grownBy_setCellAt w1 w.heap.size 0 (.int .i64 0)).size; have := HX1.out.lt; show 0 < _; omega) (fun e => by simp at e; omega)), ((grownBy_setCellAt w1 w.heap.size 0 (.int .i64 0)).cell_far ⟨0, 0, none⟩ (by have := HX1.out.lt; show 0 < _; omega) (fun e => by simp at e; omega))]
      exact hce1
     have ra0 := fun o => (HR1.out.alloc o).c0
     have ra1 := fun o => (HR1.out.alloc o).c1
     have raf0 := fun o => (HR1.out.alloc o).fz 0
     have rb : ∀ o, LBox ((w1.alloc o).setCell ⟨w.heap.size, 0, none⟩ (.int .i64 0)) w.heap.size 0 (.slice none 0 0) := fun o => (HR1.out.alloc o).set0 _
     have rb1 := fun o => (rb o).c1
     have rbf1 := fun o => (rb o).fz 1
     have rc := fun o => (rb o).set1 (.slice none 0 0)
     have rc0 := fun o => (rc o).c0
     have rc1 := fun o => (rc o).c1
     have yd := fun o => (y8.set1 (.slice none 0 0)).alloc o
     have yd0 := fun o => (yd o).c0
     have yd1 := fun o => (yd o).c1
     have HB3 := hid fun o => (((HB1.out.alloc HB1.out.size o).setCell (p := ⟨w.heap.size, 0, none⟩) (Nat.le_refl _) (.int .i64 0)).setCell (p := ⟨w.heap.size, 1, none⟩) (Nat.le_refl _) (.slice none 0 0)).drew
     have HB4 := hid fun o => (((HB1.out.setCell (p := ⟨w.heap.size, 0, none⟩) (Nat.le_refl _) (.int .i64 0)).setCell (p := ⟨w.heap.size, 1, none⟩) (Nat.le_refl _) (.slice none 0 0)).alloc (by have := HX1.out.lt; have := ((KeepsWalks.setCell (w1.setCell ⟨w.heap.size, 0, none⟩ (.int .i64 0)) ⟨w.heap.size, 1, none⟩ (.slice none 0 0)).size); have := ((KeepsWalks.setCell w1 ⟨w.heap.size, 0, none⟩ (.int .i64 0)).size); omega) o).drew
     clear y8 rb rc hno yd HNE HST
     go_wp2_with fail
     go_region
     all_goals
      go_wp2
      first
      | exact bodyPost_ret (v := .tuple #[.agg #[.int .i64 0, .slice none 0 0], .iface 143 (.pointer (some ⟨w1.heap.size, 0, none⟩))]) (by simp [results, Tryz.results102, go_sem, rc0, rc1]) rfl ⟨.inr ⟨HN.out, _, rfl⟩, HB3.out _⟩
      | exact bodyPost_ret (v := .tuple #[.agg #[.int .i64 0, .slice none 0 0], .iface 143 (.pointer (some ⟨w1.heap.size, 0, none⟩))]) (by simp [results, Tryz.results102, go_sem, yd0, yd1]) rfl ⟨.inr ⟨HN.out, _, rfl⟩, HB4.out _⟩
  ·have hk0 : k ≠ 0 := fun h => hgo (.inl h)
   obtain rfl : q = ⟨#[]⟩ := empty_of (Decidable.byContradiction fun h => hgo (.inr h))
   obtain ⟨hok, hfm⟩ := sofar_done hm (by omega) hsf
   have hc0 : ((k : Int) == 0) = false := by simpa using hk0
   obtain ⟨av, cv, rfl, _⟩ := row_form hrow
   have x0 := hx.c0
   have x1 := hx.c1
   have r0 := hr.c0
   have rf0 := hr.fz 0
   have y8 : LBox (wr.setCell ⟨w.heap.size, 0, none⟩ (.int .i64 n)) w.heap.size n (.slice none 0 0) := hr.set0 _
   have s1 := y8.c1
   have sf1 := y8.fz 1
   have y9 := y8.set1 (.slice av ss.length cv)
   have HROW := hid hrow
   have HB := hid hb
   have HOK := hid (And.intro hok hfm)
   clear hx hr hrow hb hsf hok hfm hgo y8 hk0
   go_wp2
   refine bodyPost_ret (v := .tuple #[.agg #[.int .i64 n, .slice av ss.length cv], .nilIface]) (by simp [results, Tryz.results102, go_sem, y9.c0, y9.c1]) rfl ⟨.inl ⟨n, ss, _, HOK.out.1, HOK.out.2, rfl, ?_⟩, ?_⟩
   ·have h1 := row_kept (row_kept HROW.out (grownBy_setCellAt wr w.heap.size 0 (.int .i64 n)) (by omega)) (grownBy_setCellAt _ w.heap.size 1 (.slice av ss.length cv)) (by omega)
    exact ownsRow_base h1 (by omega)
   ·exact (HB.out.setCell (p := ⟨w.heap.size, 0, none⟩) (Nat.le_refl _) _).setCell (p := ⟨w.heap.size, 1, none⟩) (Nat.le_refl _) _
end Go.Proofs.YtkjdabnglcabiaaGreatDoor
/- errors.As at the target *lineError: a nil error, and an error that is one. -/
namespace Go.Proofs.YtkjdabnglcabiaaGreatDoor
open Go.RowKit Go.Extern.Stop Go.Stop Go.Extern
theorem as_nil (t : Value) (w : World) : Calls Tryz.prog 103 #[.nilIface, t] w fun e w' => e = .returned (.bool false) ∧ w' = w := by
 go_enter Tryz.func103, Tryz.ntmps103
 go_wp2
 go_ret
 exact ⟨rfl, rfl⟩
/-! What the entries of reflectlite answer at these types. -/
theorem asValueOfPP (t : Addr) (w : World) : (ReflectliteValue.unpack (.iface 145 (.pointer (some t)))).run Tryz.prog w = .ok (.agg #[.pointer (some ⟨11, 145, none⟩), .pointer (some ⟨w.heap.size, 0, none⟩), .int .u64 150]) (w.alloc (.cells #[.pointer (some t)] 145)) := by kernel_rfl
theorem asTypePP (a : Addr) (w : World) : (ReflectliteValue.methodAny (ReflectliteValue.valueError "reflectlite.Value.Type" 0) (fun t _ _ _ => ReflectliteType.toType t) #[.agg #[.pointer (some ⟨11, 145, none⟩), .pointer (some a), .int .u64 150]]).run Tryz.prog w = .ok (.iface 199 (.agg #[.pointer (some ⟨11, 145, none⟩)])) w := by kernel_rfl
theorem asMethodKind (h : Value) (w : World) : (Go.method 376 199 (.agg #[h]) "Kind").run Tryz.prog w = .ok (197, h) w := by kernel_rfl
theorem asKindPP (w : World) : ((ReflectliteType.abiMethod fun t => (fun a : Nat => Value.int IntKind.u8 (a : Int)) <$> Rtype.kind t) #[.pointer (some ⟨11, 145, none⟩)]).run Tryz.prog w = .ok (.int .u8 22) w := by kernel_rfl
theorem asKindP (w : World) : ((ReflectliteType.abiMethod fun t => (fun a : Nat => Value.int IntKind.u8 (a : Int)) <$> Rtype.kind t) #[.pointer (some ⟨11, 143, none⟩)]).run Tryz.prog w = .ok (.int .u8 22) w := by kernel_rfl
theorem asMeth (z : Sem Value) (f : TypeId → Addr → Nat → Nat → Sem Value) (v : Value) : ReflectliteValue.method z f #[v] = (do match ← ReflectliteValue.parts v with | none => z | some (t, a, fl) => f t a fl (fl % 32)) := rfl
theorem asPartsPP (a : Addr) (w : World) : (ReflectliteValue.parts (.agg #[.pointer (some ⟨11, 145, none⟩), .pointer (some a), .int .u64 150])).run Tryz.prog w = .ok (some (145, a, 150)) w := by kernel_rfl
theorem asIsNilPP (a p : Addr) (W : World) (ha : W.cell? a = some (.pointer (some p))) :
  (ReflectliteValue.method (ReflectliteValue.valueError "reflectlite.Value.IsNil" 0) ReflectliteValue.isNil #[.agg #[.pointer (some ⟨11, 145, none⟩), .pointer (some a), .int .u64 150]]).run Tryz.prog W = .ok (.bool false) W := by
 rw [asMeth]
 simp only [Sem.run_bind, asPartsPP, Result.andThen]
 simp [ReflectliteValue.isNil, loadVar, isAgg, underlying, Tryz.underlying145, ha, Result.andThen]
theorem asMethodElem (h : Value) (w : World) : (Go.method 376 199 (.agg #[h]) "Elem").run Tryz.prog w = .ok (217, .agg #[h]) w := by kernel_rfl
theorem asMethodImplements (h : Value) (w : World) : (Go.method 376 199 (.agg #[h]) "Implements").run Tryz.prog w = .ok (218, .agg #[h]) w := by kernel_rfl
theorem asMethodAssignableTo (h : Value) (w : World) : (Go.method 376 199 (.agg #[h]) "AssignableTo").run Tryz.prog w = .ok (215, .agg #[h]) w := by kernel_rfl
theorem asElemPP (w : World) : (ReflectliteType.method ReflectliteType.elem #[.agg #[.pointer (some ⟨11, 145, none⟩)]]).run Tryz.prog w = .ok (.iface 199 (.agg #[.pointer (some ⟨11, 143, none⟩)])) w := by kernel_rfl
theorem asImplementsP (w : World) : (ReflectliteType.relation "Implements" ReflectliteType.implements_ #[.agg #[.pointer (some ⟨11, 143, none⟩)], .iface 199 (.agg #[.pointer (some ⟨11, 117, none⟩)])]).run Tryz.prog w = .ok (.bool true) w := by kernel_rfl
theorem asTypeOfP (v : Value) (w : World) : (ReflectliteType.typeOf #[.iface 143 v]).run Tryz.prog w = .ok (.iface 199 (.agg #[.pointer (some ⟨11, 143, none⟩)])) w := by kernel_rfl
theorem asAssignableP (w : World) : (ReflectliteType.relation "AssignableTo" ReflectliteType.assignableTo #[.agg #[.pointer (some ⟨11, 143, none⟩)], .iface 199 (.agg #[.pointer (some ⟨11, 143, none⟩)])]).run Tryz.prog w = .ok (.bool true) w := by kernel_rfl
theorem asValueOfP (e : Addr) (w : World) : (ReflectliteValue.unpack (.iface 143 (.pointer (some e)))).run Tryz.prog w = .ok (.agg #[.pointer (some ⟨11, 143, none⟩), .pointer (some ⟨w.heap.size, 0, none⟩), .int .u64 150]) (w.alloc (.cells #[.pointer (some e)] 143)) := by kernel_rfl
theorem asElemOfPP (w : World) : (Rtype.elem? 145).run Tryz.prog w = .ok (some 143) w := by kernel_rfl
theorem asMkP (p : Addr) (w : World) : (ReflectliteValue.mk 143 p ReflectliteValue.flagAddr).run Tryz.prog w = .ok (.agg #[.pointer (some ⟨11, 143, none⟩), .pointer (some p), .int .u64 406]) w := by kernel_rfl
theorem asElemVPP (a p : Addr) (W : World) (ha : W.cell? a = some (.pointer (some p))) :
  (ReflectliteValue.method (ReflectliteValue.valueError "reflectlite.Value.Elem" 0) ReflectliteValue.elem #[.agg #[.pointer (some ⟨11, 145, none⟩), .pointer (some a), .int .u64 150]]).run Tryz.prog W = .ok (.agg #[.pointer (some ⟨11, 143, none⟩), .pointer (some p), .int .u64 406]) W := by
 rw [asMeth]
 simp only [Sem.run_bind, asPartsPP, Result.andThen]
 simp [ReflectliteValue.elem, loadVar, isAgg, underlying, Tryz.underlying145, ha, Result.andThen, asElemOfPP, asMkP]
theorem asPartsPa (a : Addr) (w : World) : (ReflectliteValue.parts (.agg #[.pointer (some ⟨11, 143, none⟩), .pointer (some a), .int .u64 406])).run Tryz.prog w = .ok (some (143, a, 406)) w := by kernel_rfl
theorem asPartsP (a : Addr) (w : World) : (ReflectliteValue.parts (.agg #[.pointer (some ⟨11, 143, none⟩), .pointer (some a), .int .u64 150])).run Tryz.prog w = .ok (some (143, a, 150)) w := by kernel_rfl
theorem asDirectP (w : World) : (Rtype.directlyAssignable 143 143).run Tryz.prog w = .ok true w := by kernel_rfl
theorem asSetP (ta b e : Addr) (old : Value) (W : World) (hb : W.cell? b = some (.pointer (some e))) (ht : W.cell? ta = some old) (hf : W.frozen? ta = false) :
  (ReflectliteValue.set #[.agg #[.pointer (some ⟨11, 143, none⟩), .pointer (some ta), .int .u64 406], .agg #[.pointer (some ⟨11, 143, none⟩), .pointer (some b), .int .u64 150]]).run Tryz.prog W = .ok (.tuple #[]) (W.setCell ta (.pointer (some e))) := by
 change (ReflectliteValue.parts _ >>= _).run Tryz.prog W = _
 simp only [Array.getLit, List.getElem_toArray, List.getElem_cons_zero, List.getElem_cons_succ, Sem.run_bind, asPartsPa, asPartsP, Result.andThen]
 simp [ReflectliteValue.flagAddr, loadVar, isAgg, underlying, Tryz.underlying143, hb, Result.andThen, asDirectP, storeVar, Value.cells, storeCells, Addr.add]
 rw [run_store Tryz.prog W ta _ _ (by rfl)]
 simp [ht, hf]
set_option maxRecDepth 100000 in
set_option maxHeartbeats 4000000 in
theorem as_hit (e t : Addr) (old : Value) (w : World) (hg : w.cell? ⟨1, 0, none⟩ = some (.iface 199 (.agg #[.pointer (some ⟨11, 117, none⟩)]))) (ht0 : w.cell? t = some old) (hf0 : w.frozen? t = false) :
  Calls Tryz.prog 103 #[.iface 143 (.pointer (some e)), .iface 145 (.pointer (some t))] w fun ev w' => ev = .returned (.bool true) ∧ w' = ((((w.alloc (.cells #[.pointer (some t)] 145)).alloc (.cells #[.pointer (some ⟨11, 145, none⟩), .pointer (some ⟨w.heap.size, 0, none⟩), .int .u64 150] 171)).alloc (.cells #[.pointer (some ⟨11, 145, none⟩), .pointer (some ⟨w.heap.size, 0, none⟩), .int .u64 150] 171)).alloc (.cells #[.pointer (some e)] 143)).setCell t (.pointer (some e)) := by
 have h6 := @run_callFunc_extern Tryz.prog 121 _ (fun args => ReflectliteValue.unpack (args.getD 0 (.tuple #[]))) Tryz.func121 (by kernel_rfl) (by kernel_rfl) (by kernel_rfl) (by kernel_rfl)
 have h7 := @run_callFunc_extern Tryz.prog 122 _ (ReflectliteValue.methodAny (ReflectliteValue.valueError "reflectlite.Value.Type" 0) (fun t _ _ _ => ReflectliteType.toType t)) Tryz.func122 (by kernel_rfl) (by kernel_rfl) (by kernel_rfl) (by kernel_rfl)
 have h8 := @run_callFunc_extern Tryz.prog 123 _ (ReflectliteValue.method (ReflectliteValue.valueError "reflectlite.Value.IsNil" 0) ReflectliteValue.isNil) Tryz.func123 (by kernel_rfl) (by kernel_rfl) (by kernel_rfl) (by kernel_rfl)
 have h27 := @run_callFunc_extern Tryz.prog 197 _ (ReflectliteType.abiMethod fun t => do pure (.int .u8 (← Rtype.kind t))) Tryz.func197 (by kernel_rfl) (by kernel_rfl) (by kernel_rfl) (by kernel_rfl)
 have h37 := @run_callFunc_extern Tryz.prog 217 _ (ReflectliteType.method ReflectliteType.elem) Tryz.func217 (by kernel_rfl) (by kernel_rfl) (by kernel_rfl) (by kernel_rfl)
 have h38 := @run_callFunc_extern Tryz.prog 218 _ (ReflectliteType.relation "Implements" ReflectliteType.implements_) Tryz.func218 (by kernel_rfl) (by kernel_rfl) (by kernel_rfl) (by kernel_rfl)
 have h10 := @run_callFunc_extern Tryz.prog 144 _ ReflectliteType.typeOf Tryz.func144 (by kernel_rfl) (by kernel_rfl) (by kernel_rfl) (by kernel_rfl)
 have h35 := @run_callFunc_extern Tryz.prog 215 _ (ReflectliteType.relation "AssignableTo" ReflectliteType.assignableTo) Tryz.func215 (by kernel_rfl) (by kernel_rfl) (by kernel_rfl) (by kernel_rfl)
 have h11 := @run_callFunc_extern Tryz.prog 145 _ (ReflectliteValue.method (ReflectliteValue.valueError "reflectlite.Value.Elem" 0) ReflectliteValue.elem) Tryz.func145 (by kernel_rfl) (by kernel_rfl) (by kernel_rfl) (by kernel_rfl)
 have h12 := @run_callFunc_extern Tryz.prog 146 _ ReflectliteValue.set Tryz.func146 (by kernel_rfl) (by kernel_rfl) (by kernel_rfl) (by kernel_rfl)
 have tO := asTypeOfP
 have mA := asMethodAssignableTo
 have a25 := asAssignableP
 have v25 := asValueOfP
 have f6 := asValueOfPP
 have f7 := asTypePP
 have mK := asMethodKind
 have mE := asMethodElem
 have mI := asMethodImplements
 have k27 := asKindPP
 have k25 := asKindP
 have e27 := asElemPP
 have i25 := asImplementsP
 have n8 := asIsNilPP ⟨w.heap.size, 0, none⟩ t ((w.alloc (.cells #[.pointer (some t)] 145)).alloc (.cells #[.pointer (some ⟨11, 145, none⟩), .pointer (some ⟨w.heap.size, 0, none⟩), .int .u64 150] 171)) (by simp)
 have hlt : 1 < w.heap.size := World.block_lt_of_cell? w ⟨1, 0, none⟩ hg
 have hg2 : ((w.alloc (.cells #[.pointer (some t)] 145)).alloc (.cells #[.pointer (some ⟨11, 145, none⟩), .pointer (some ⟨w.heap.size, 0, none⟩), .int .u64 150] 171)).cell? ⟨1, 0, none⟩ = some (.iface 199 (.agg #[.pointer (some ⟨11, 117, none⟩)])) := by
  rw [World.cell?_alloc_lt _ _ ⟨1, 0, none⟩ (by simp; omega), World.cell?_alloc_lt _ _ ⟨1, 0, none⟩ hlt]; exact hg
 have htl : t.block < w.heap.size := World.block_lt_of_cell? w t ht0
 have el := asElemVPP ⟨w.heap.size, 0, none⟩ t (((w.alloc (.cells #[.pointer (some t)] 145)).alloc (.cells #[.pointer (some ⟨11, 145, none⟩), .pointer (some ⟨w.heap.size, 0, none⟩), .int .u64 150] 171)).alloc (.cells #[.pointer (some ⟨11, 145, none⟩), .pointer (some ⟨w.heap.size, 0, none⟩), .int .u64 150] 171)) (by rw [World.cell?_alloc_lt _ _ ⟨w.heap.size, 0, none⟩ (by simp; omega)]; simp)
 have st := asSetP t ⟨w.heap.size + 1 + 1 + 1, 0, none⟩ e old ((((w.alloc (.cells #[.pointer (some t)] 145)).alloc (.cells #[.pointer (some ⟨11, 145, none⟩), .pointer (some ⟨w.heap.size, 0, none⟩), .int .u64 150] 171)).alloc (.cells #[.pointer (some ⟨11, 145, none⟩), .pointer (some ⟨w.heap.size, 0, none⟩), .int .u64 150] 171)).alloc (.cells #[.pointer (some e)] 143))
  (by rw [World.cell?_alloc_at _ _ _ _ (by simp)]; rfl)
  (by rw [World.cell?_alloc_lt _ _ t (by simp; omega), World.cell?_alloc_lt _ _ t (by simp; omega), World.cell?_alloc_lt _ _ t (by simp; omega), World.cell?_alloc_lt _ _ t htl]; exact ht0)
  (by rw [World.frozen?_alloc_old _ _ t (by simp; omega), World.frozen?_alloc_old _ _ t (by simp; omega), World.frozen?_alloc_old _ _ t (by simp; omega), World.frozen?_alloc_old _ _ t (Nat.ne_of_lt htl)]; exact hf0)
 go_enter Tryz.func103, Tryz.ntmps103
 go_wp2
 refine wp_loop_rounds 1 ?_
 rw [rounds_succ]
 go_wp2
 go_ret
 exact ⟨rfl, rfl⟩
end Go.Proofs.YtkjdabnglcabiaaGreatDoor
/- impl.ReadList. -/
namespace Go.Proofs.YtkjdabnglcabiaaGreatDoor
open Go.RowKit Go.Shelf
theorem as_hit_below (e t : Addr) (old : Value) (w : World) (hg : w.cell? ⟨1, 0, none⟩ = some (.iface 199 (.agg #[.pointer (some ⟨11, 117, none⟩)]))) (ht0 : w.cell? t = some old) (hf0 : w.frozen? t = false) :
  Calls Tryz.prog 103 #[.iface 143 (.pointer (some e)), .iface 145 (.pointer (some t))] w fun ev w' => ev = .returned (.bool true) ∧ Below t.block w w' := by
 have hl : t.block < w.heap.size := World.block_lt_of_cell? w t ht0
 refine (as_hit e t old w hg ht0 hf0).mono ?_
 rintro ev w' ⟨rfl, rfl⟩
 refine ⟨rfl, ?_⟩
 refine Below.setCell (((((Below.refl t.block w).alloc (by omega) _).alloc (by rw [World.size_alloc]; omega) _).alloc (by rw [World.size_alloc, World.size_alloc]; omega) _).alloc (by rw [World.size_alloc, World.size_alloc, World.size_alloc]; omega) _) (Nat.le_refl _) _
set_option maxRecDepth 100000 in
set_option maxHeartbeats 1000000 in
theorem implReadList_any (s : ByteArray) (m : Int) (w : World) (hs : s.size ≤ 281474976710656) (hw : Errs w) :
  Calls Tryz.prog 84 #[.string s, .int .i64 m] w (ReadA s m w) := by
 have HB0 := hid ((Below.refl w.heap.size w).alloc (Nat.le_refl _) (.cells #[.int .i64 0, .slice none 0 0] 54))
 have HR0 : Hid (LBox (w.alloc (.cells #[.int .i64 0, .slice none 0 0] 54)) w.heap.size 0 (.slice none 0 0)) := World.alloc_heap_new w _
 cases hwm : isW m with
 | false =>
  have HN := hid (noForm_width (s := s) hwm)
  clear hw
  go_enter Tryz.func84, Tryz.ntmps84
  go_wp2_with (go_at_call 37; refine (isWidth_any _ _).mono ?_; rintro e w' ⟨rfl, rfl⟩; rw [hwm])
  exact bodyPost_ret (v := .tuple #[.agg #[.int .i64 0, .slice none 0 0], .bool false]) (by simp [results, Tryz.results84, go_sem]) rfl (ReadA.no HN.out HB0.out)
 | true =>
  have hm8 : 1 ≤ m ∧ m ≤ 8 := by simpa [isW] using hwm
  obtain ⟨k, rfl⟩ := Int.eq_ofNat_of_zero_le (show 0 ≤ m by omega)
  have HL := hid (readLines_any s k (by omega) hs _ (hw.below HB0.out))
  have HW := hid hw
  clear hw
  go_enter Tryz.func84, Tryz.ntmps84
  go_wp2_with (go_at_call 37; refine (isWidth_any _ _).mono ?_; rintro e w' ⟨rfl, rfl⟩; rw [hwm])
  refine HL.out.mono ?_
  rintro e w1 ⟨hl, hb1⟩
  rw [World.size_alloc] at hb1
  have HR1 : Hid (LBox w1 w.heap.size 0 (.slice none 0 0)) := HR0.out.trans2 hb1 (Nat.lt_succ_self _)
  have hs1 := hb1.size
  rw [World.size_alloc] at hs1
  have HB1 : Hid (Below w.heap.size w w1) := HB0.out.trans (hb1.mono (Nat.le_succ _))
  clear hb1 HL HB0 HR0
  rcases hl with ⟨n, ss, v, hok, hfm, rfl, hrow⟩ | ⟨hno, a, rfl⟩
  ·rw [World.size_alloc] at hrow
   obtain ⟨av, cv, rfl, _⟩ := row_form hrow
   have HROW := hid hrow
   have HOK := hid (And.intro hok hfm)
   have ra := fun o1 o2 => (HR1.out.alloc o1).alloc o2
   have ra0 := fun o1 o2 => (ra o1 o2).c0
   have raf0 := fun o1 o2 => (ra o1 o2).fz 0
   have rb : ∀ o1 o2, LBox (((w1.alloc o1).alloc o2).setCell ⟨w.heap.size, 0, none⟩ (.int .i64 n)) w.heap.size n (.slice none 0 0) := fun o1 o2 => (ra o1 o2).set0 _
   have rb1 := fun o1 o2 => (rb o1 o2).c1
   have rbf1 := fun o1 o2 => (rb o1 o2).fz 1
   have rc := fun o1 o2 => (rb o1 o2).set1 (.slice av ss.length cv)
   have rc0 := fun o1 o2 => (rc o1 o2).c0
   have rc1 := fun o1 o2 => (rc o1 o2).c1
   clear hrow hok hfm ra rb rc
   go_wp2_with (go_at_call 103; refine (as_nil _ _).mono ?_; rintro e w' ⟨rfl, rfl⟩)
   refine bodyPost_ret (v := .tuple #[.agg #[.int .i64 n, .slice av ss.length cv], .bool true]) (by simp [results, Tryz.results84, go_sem, rc0, rc1]) rfl ⟨_, n, ss, true, rfl, .inl ⟨rfl, HOK.out.1, HOK.out.2⟩, ?_, ?_⟩
   ·exact ownsRow_base (row_kept (row_kept ((HROW.out.alloc _).alloc _) (grownBy_setCellAt _ w.heap.size 0 (.int .i64 n)) (by omega)) (grownBy_setCellAt _ w.heap.size 1 (.slice av ss.length cv)) (by omega)) (by omega)
   ·exact (((HB1.out.alloc (by omega) _).alloc (by rw [World.size_alloc]; omega) _).setCell (p := ⟨w.heap.size, 0, none⟩) (Nat.le_refl _) _).setCell (p := ⟨w.heap.size, 1, none⟩) (Nat.le_refl _) _
  ·have HN := hid hno
   have hE1 := HW.out.below HB1.out
   have hgl : 1 < w1.heap.size := World.block_lt_of_cell? w1 ⟨1, 0, none⟩ hE1.typ
   have hg : ((w1.alloc (.cells #[.int .i64 0, .slice none 0 0] 54)).alloc (.cells #[.pointer none] 143)).cell? ⟨1, 0, none⟩ = some (.iface 199 (.agg #[.pointer (some ⟨11, 117, none⟩)])) := by
    rw [World.cell?_alloc_lt _ _ ⟨1, 0, none⟩ (by rw [World.size_alloc]; show 1 < _; omega), World.cell?_alloc_lt _ _ ⟨1, 0, none⟩ hgl]; exact hE1.typ
   have HA := hid (as_hit_below a ⟨w1.heap.size + 1, 0, none⟩ (.pointer none) ((w1.alloc (.cells #[.int .i64 0, .slice none 0 0] 54)).alloc (.cells #[.pointer none] 143)) hg (by simp) (by simp))
   have HR2 := hid ((HR1.out.alloc (.cells #[.int .i64 0, .slice none 0 0] 54)).alloc (.cells #[.pointer none] 143))
   have HB2 := hid ((HB1.out.alloc (by omega) (.cells #[.int .i64 0, .slice none 0 0] 54)).alloc (by rw [World.size_alloc]; omega) (.cells #[.pointer none] 143))
   clear hno hE1 hg HW
   go_wp2_with fail
   refine HA.out.mono ?_
   rintro e w3 ⟨rfl, hb3⟩
   have HR3 := hid (HR2.out.trans2 hb3 (by show w.heap.size < w1.heap.size + 1; omega))
   have HB3 := hid (HB2.out.trans (hb3.mono (by show w.heap.size ≤ w1.heap.size + 1; omega)))
   have r0 := HR3.out.c0
   have r1 := HR3.out.c1
   have rf0 := HR3.out.fz 0
   have rb : LBox (w3.setCell ⟨w.heap.size, 0, none⟩ (.int .i64 0)) w.heap.size 0 (.slice none 0 0) := HR3.out.set0 _
   have rb1 := rb.c1
   have rbf1 := rb.fz 1
   have rc := rb.set1 (.slice none 0 0)
   clear hb3 rb HA HR2 HB2
   go_wp2
   exact bodyPost_ret (v := .tuple #[.agg #[.int .i64 0, .slice none 0 0], .bool false]) (by simp [results, Tryz.results84, go_sem, rc.c0, rc.c1]) rfl (ReadA.no HN.out ((HB3.out.setCell (p := ⟨w.heap.size, 0, none⟩) (Nat.le_refl _) _).setCell (p := ⟨w.heap.size, 1, none⟩) (Nat.le_refl _) _))
end Go.Proofs.YtkjdabnglcabiaaGreatDoor
