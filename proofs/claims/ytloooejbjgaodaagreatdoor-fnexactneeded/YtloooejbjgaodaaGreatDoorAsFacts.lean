/- errors.As at the target *lineError: a nil error, and an error that is one. -/
import Derived.Test.YtloooejbjgaodaaGreatDoorBytes
import Derived.LaidEql
import Derived.Stop.Asserts
import Derived.RowKitTokens
namespace Go.Proofs.YtloooejbjgaodaaGreatDoor
open Go.RowKit Go.Extern.Stop Go.Stop Go.Extern
theorem as_nil (t : Value) (w : World) : Calls Tryz.prog 155 #[.nilIface, t] w fun e w' => e = .returned (.bool false) ∧ w' = w := by
  go_enter Tryz.func155, Tryz.ntmps155
  go_wp2
  go_ret
  exact ⟨rfl, rfl⟩
/-! What the entries of reflectlite answer at these types. -/
theorem asValueOfPP (t : Addr) (w : World) : (ReflectliteValue.unpack (.iface 205 (.pointer (some t)))).run Tryz.prog w = .ok (.agg #[.pointer (some ⟨11, 205, none⟩), .pointer (some ⟨w.heap.size, 0, none⟩), .int .u64 150]) (w.alloc (.cells #[.pointer (some t)] 205)) := by kernel_rfl
theorem asTypePP (a : Addr) (w : World) : (ReflectliteValue.methodAny (ReflectliteValue.valueError "reflectlite.Value.Type" 0) (fun t _ _ _ => ReflectliteType.toType t) #[.agg #[.pointer (some ⟨11, 205, none⟩), .pointer (some a), .int .u64 150]]).run Tryz.prog w = .ok (.iface 266 (.agg #[.pointer (some ⟨11, 205, none⟩)])) w := by kernel_rfl
theorem asMethodKind (h : Value) (w : World) : (Go.method 455 266 (.agg #[h]) "Kind").run Tryz.prog w = .ok (261, h) w := by kernel_rfl
theorem asKindPP (w : World) : ((ReflectliteType.abiMethod fun t => (fun a : Nat => Value.int IntKind.u8 (a : Int)) <$> Rtype.kind t) #[.pointer (some ⟨11, 205, none⟩)]).run Tryz.prog w = .ok (.int .u8 22) w := by kernel_rfl
theorem asKindP (w : World) : ((ReflectliteType.abiMethod fun t => (fun a : Nat => Value.int IntKind.u8 (a : Int)) <$> Rtype.kind t) #[.pointer (some ⟨11, 203, none⟩)]).run Tryz.prog w = .ok (.int .u8 22) w := by kernel_rfl
theorem asMeth (z : Sem Value) (f : TypeId → Addr → Nat → Nat → Sem Value) (v : Value) : ReflectliteValue.method z f #[v] = (do match ← ReflectliteValue.parts v with | none => z | some (t, a, fl) => f t a fl (fl % 32)) := rfl
theorem asPartsPP (a : Addr) (w : World) : (ReflectliteValue.parts (.agg #[.pointer (some ⟨11, 205, none⟩), .pointer (some a), .int .u64 150])).run Tryz.prog w = .ok (some (205, a, 150)) w := by kernel_rfl
theorem asIsNilPP (a p : Addr) (W : World) (ha : W.cell? a = some (.pointer (some p))) :
    (ReflectliteValue.method (ReflectliteValue.valueError "reflectlite.Value.IsNil" 0) ReflectliteValue.isNil #[.agg #[.pointer (some ⟨11, 205, none⟩), .pointer (some a), .int .u64 150]]).run Tryz.prog W = .ok (.bool false) W := by
  rw [asMeth]
  simp only [Sem.run_bind, asPartsPP, Result.andThen]
  simp [ReflectliteValue.isNil, loadVar, isAgg, underlying, Tryz.underlying205, ha, Result.andThen]
theorem asMethodElem (h : Value) (w : World) : (Go.method 455 266 (.agg #[h]) "Elem").run Tryz.prog w = .ok (292, .agg #[h]) w := by kernel_rfl
theorem asMethodImplements (h : Value) (w : World) : (Go.method 455 266 (.agg #[h]) "Implements").run Tryz.prog w = .ok (293, .agg #[h]) w := by kernel_rfl
theorem asMethodAssignableTo (h : Value) (w : World) : (Go.method 455 266 (.agg #[h]) "AssignableTo").run Tryz.prog w = .ok (290, .agg #[h]) w := by kernel_rfl
theorem asElemPP (w : World) : (ReflectliteType.method ReflectliteType.elem #[.agg #[.pointer (some ⟨11, 205, none⟩)]]).run Tryz.prog w = .ok (.iface 266 (.agg #[.pointer (some ⟨11, 203, none⟩)])) w := by kernel_rfl
theorem asImplementsP (w : World) : (ReflectliteType.relation "Implements" ReflectliteType.implements_ #[.agg #[.pointer (some ⟨11, 203, none⟩)], .iface 266 (.agg #[.pointer (some ⟨11, 200, none⟩)])]).run Tryz.prog w = .ok (.bool true) w := by kernel_rfl
theorem asTypeOfP (v : Value) (w : World) : (ReflectliteType.typeOf #[.iface 203 v]).run Tryz.prog w = .ok (.iface 266 (.agg #[.pointer (some ⟨11, 203, none⟩)])) w := by kernel_rfl
theorem asAssignableP (w : World) : (ReflectliteType.relation "AssignableTo" ReflectliteType.assignableTo #[.agg #[.pointer (some ⟨11, 203, none⟩)], .iface 266 (.agg #[.pointer (some ⟨11, 203, none⟩)])]).run Tryz.prog w = .ok (.bool true) w := by kernel_rfl
theorem asValueOfP (e : Addr) (w : World) : (ReflectliteValue.unpack (.iface 203 (.pointer (some e)))).run Tryz.prog w = .ok (.agg #[.pointer (some ⟨11, 203, none⟩), .pointer (some ⟨w.heap.size, 0, none⟩), .int .u64 150]) (w.alloc (.cells #[.pointer (some e)] 203)) := by kernel_rfl
theorem asElemOfPP (w : World) : (Rtype.elem? 205).run Tryz.prog w = .ok (some 203) w := by kernel_rfl
theorem asMkP (p : Addr) (w : World) : (ReflectliteValue.mk 203 p ReflectliteValue.flagAddr).run Tryz.prog w = .ok (.agg #[.pointer (some ⟨11, 203, none⟩), .pointer (some p), .int .u64 406]) w := by kernel_rfl
theorem asElemVPP (a p : Addr) (W : World) (ha : W.cell? a = some (.pointer (some p))) :
    (ReflectliteValue.method (ReflectliteValue.valueError "reflectlite.Value.Elem" 0) ReflectliteValue.elem #[.agg #[.pointer (some ⟨11, 205, none⟩), .pointer (some a), .int .u64 150]]).run Tryz.prog W = .ok (.agg #[.pointer (some ⟨11, 203, none⟩), .pointer (some p), .int .u64 406]) W := by
  rw [asMeth]
  simp only [Sem.run_bind, asPartsPP, Result.andThen]
  simp [ReflectliteValue.elem, loadVar, isAgg, underlying, Tryz.underlying205, ha, Result.andThen, asElemOfPP, asMkP]
theorem asPartsPa (a : Addr) (w : World) : (ReflectliteValue.parts (.agg #[.pointer (some ⟨11, 203, none⟩), .pointer (some a), .int .u64 406])).run Tryz.prog w = .ok (some (203, a, 406)) w := by kernel_rfl
theorem asPartsP (a : Addr) (w : World) : (ReflectliteValue.parts (.agg #[.pointer (some ⟨11, 203, none⟩), .pointer (some a), .int .u64 150])).run Tryz.prog w = .ok (some (203, a, 150)) w := by kernel_rfl
theorem asDirectP (w : World) : (Rtype.directlyAssignable 203 203).run Tryz.prog w = .ok true w := by kernel_rfl
theorem asSetP (ta b e : Addr) (old : Value) (W : World) (hb : W.cell? b = some (.pointer (some e))) (ht : W.cell? ta = some old) (hf : W.frozen? ta = false) :
    (ReflectliteValue.set #[.agg #[.pointer (some ⟨11, 203, none⟩), .pointer (some ta), .int .u64 406], .agg #[.pointer (some ⟨11, 203, none⟩), .pointer (some b), .int .u64 150]]).run Tryz.prog W = .ok (.tuple #[]) (W.setCell ta (.pointer (some e))) := by
  change (ReflectliteValue.parts _ >>= _).run Tryz.prog W = _
  simp only [Array.getLit, List.getElem_toArray, List.getElem_cons_zero, List.getElem_cons_succ, Sem.run_bind, asPartsPa, asPartsP, Result.andThen]
  simp [ReflectliteValue.flagAddr, loadVar, isAgg, underlying, Tryz.underlying203, hb, Result.andThen, asDirectP, storeVar, Value.cells, storeCells, Addr.add]
  rw [run_store Tryz.prog W ta _ _ (by rfl)]
  simp [ht, hf]
set_option maxRecDepth 100000 in
set_option maxHeartbeats 4000000 in
theorem as_hit (e t : Addr) (old : Value) (w : World) (hg : w.cell? ⟨1, 0, none⟩ = some (.iface 266 (.agg #[.pointer (some ⟨11, 200, none⟩)]))) (ht0 : w.cell? t = some old) (hf0 : w.frozen? t = false) :
    Calls Tryz.prog 155 #[.iface 203 (.pointer (some e)), .iface 205 (.pointer (some t))] w fun ev w' => ev = .returned (.bool true) ∧ w' = ((((w.alloc (.cells #[.pointer (some t)] 205)).alloc (.cells #[.pointer (some ⟨11, 205, none⟩), .pointer (some ⟨w.heap.size, 0, none⟩), .int .u64 150] 234)).alloc (.cells #[.pointer (some ⟨11, 205, none⟩), .pointer (some ⟨w.heap.size, 0, none⟩), .int .u64 150] 234)).alloc (.cells #[.pointer (some e)] 203)).setCell t (.pointer (some e)) := by
  have h6 := @run_callFunc_extern Tryz.prog 178 _ (fun args => ReflectliteValue.unpack (args.getD 0 (.tuple #[]))) Tryz.func178 (by kernel_rfl) (by kernel_rfl) (by kernel_rfl) (by kernel_rfl)
  have h7 := @run_callFunc_extern Tryz.prog 179 _ (ReflectliteValue.methodAny (ReflectliteValue.valueError "reflectlite.Value.Type" 0) (fun t _ _ _ => ReflectliteType.toType t)) Tryz.func179 (by kernel_rfl) (by kernel_rfl) (by kernel_rfl) (by kernel_rfl)
  have h8 := @run_callFunc_extern Tryz.prog 180 _ (ReflectliteValue.method (ReflectliteValue.valueError "reflectlite.Value.IsNil" 0) ReflectliteValue.isNil) Tryz.func180 (by kernel_rfl) (by kernel_rfl) (by kernel_rfl) (by kernel_rfl)
  have h27 := @run_callFunc_extern Tryz.prog 261 _ (ReflectliteType.abiMethod fun t => do pure (.int .u8 (← Rtype.kind t))) Tryz.func261 (by kernel_rfl) (by kernel_rfl) (by kernel_rfl) (by kernel_rfl)
  have h37 := @run_callFunc_extern Tryz.prog 292 _ (ReflectliteType.method ReflectliteType.elem) Tryz.func292 (by kernel_rfl) (by kernel_rfl) (by kernel_rfl) (by kernel_rfl)
  have h38 := @run_callFunc_extern Tryz.prog 293 _ (ReflectliteType.relation "Implements" ReflectliteType.implements_) Tryz.func293 (by kernel_rfl) (by kernel_rfl) (by kernel_rfl) (by kernel_rfl)
  have h10 := @run_callFunc_extern Tryz.prog 202 _ ReflectliteType.typeOf Tryz.func202 (by kernel_rfl) (by kernel_rfl) (by kernel_rfl) (by kernel_rfl)
  have h35 := @run_callFunc_extern Tryz.prog 290 _ (ReflectliteType.relation "AssignableTo" ReflectliteType.assignableTo) Tryz.func290 (by kernel_rfl) (by kernel_rfl) (by kernel_rfl) (by kernel_rfl)
  have h11 := @run_callFunc_extern Tryz.prog 203 _ (ReflectliteValue.method (ReflectliteValue.valueError "reflectlite.Value.Elem" 0) ReflectliteValue.elem) Tryz.func203 (by kernel_rfl) (by kernel_rfl) (by kernel_rfl) (by kernel_rfl)
  have h12 := @run_callFunc_extern Tryz.prog 204 _ ReflectliteValue.set Tryz.func204 (by kernel_rfl) (by kernel_rfl) (by kernel_rfl) (by kernel_rfl)
  have tO := asTypeOfP
  have mA := asMethodAssignableTo
  have a25 := asAssignableP
  have v25 := asValueOfP
  have f6 := asValueOfPP
  have f7 := asTypePP
  have mK := asMethodKind
  have mE := asMethodElem
  have mI := asMethodImplements
  have k27 := asKindPP
  have k25 := asKindP
  have e27 := asElemPP
  have i25 := asImplementsP
  have n8 := asIsNilPP ⟨w.heap.size, 0, none⟩ t ((w.alloc (.cells #[.pointer (some t)] 205)).alloc (.cells #[.pointer (some ⟨11, 205, none⟩), .pointer (some ⟨w.heap.size, 0, none⟩), .int .u64 150] 234)) (by simp)
  have hlt : 1 < w.heap.size := World.block_lt_of_cell? w ⟨1, 0, none⟩ hg
  have hg2 : ((w.alloc (.cells #[.pointer (some t)] 205)).alloc (.cells #[.pointer (some ⟨11, 205, none⟩), .pointer (some ⟨w.heap.size, 0, none⟩), .int .u64 150] 234)).cell? ⟨1, 0, none⟩ = some (.iface 266 (.agg #[.pointer (some ⟨11, 200, none⟩)])) := by
    rw [World.cell?_alloc_lt _ _ ⟨1, 0, none⟩ (by simp; omega), World.cell?_alloc_lt _ _ ⟨1, 0, none⟩ hlt]; exact hg
  have htl : t.block < w.heap.size := World.block_lt_of_cell? w t ht0
  have el := asElemVPP ⟨w.heap.size, 0, none⟩ t (((w.alloc (.cells #[.pointer (some t)] 205)).alloc (.cells #[.pointer (some ⟨11, 205, none⟩), .pointer (some ⟨w.heap.size, 0, none⟩), .int .u64 150] 234)).alloc (.cells #[.pointer (some ⟨11, 205, none⟩), .pointer (some ⟨w.heap.size, 0, none⟩), .int .u64 150] 234)) (by rw [World.cell?_alloc_lt _ _ ⟨w.heap.size, 0, none⟩ (by simp; omega)]; simp)
  have st := asSetP t ⟨w.heap.size + 1 + 1 + 1, 0, none⟩ e old ((((w.alloc (.cells #[.pointer (some t)] 205)).alloc (.cells #[.pointer (some ⟨11, 205, none⟩), .pointer (some ⟨w.heap.size, 0, none⟩), .int .u64 150] 234)).alloc (.cells #[.pointer (some ⟨11, 205, none⟩), .pointer (some ⟨w.heap.size, 0, none⟩), .int .u64 150] 234)).alloc (.cells #[.pointer (some e)] 203))
    (by rw [World.cell?_alloc_at _ _ _ _ (by simp)]; rfl)
    (by rw [World.cell?_alloc_lt _ _ t (by simp; omega), World.cell?_alloc_lt _ _ t (by simp; omega), World.cell?_alloc_lt _ _ t (by simp; omega), World.cell?_alloc_lt _ _ t htl]; exact ht0)
    (by rw [World.frozen?_alloc_old _ _ t (by simp; omega), World.frozen?_alloc_old _ _ t (by simp; omega), World.frozen?_alloc_old _ _ t (by simp; omega), World.frozen?_alloc_old _ _ t (Nat.ne_of_lt htl)]; exact hf0)
  go_enter Tryz.func155, Tryz.ntmps155
  go_wp2
  refine wp_loop_rounds 1 ?_
  rw [rounds_succ]
  go_wp2
  go_ret
  exact ⟨rfl, rfl⟩
end Go.Proofs.YtloooejbjgaodaaGreatDoor
