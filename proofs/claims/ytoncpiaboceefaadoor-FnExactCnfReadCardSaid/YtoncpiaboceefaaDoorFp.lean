/-
  AN ERROR ASKED FOR A FAULT OF A LINE: errors.As at that type, by Go's own text over the model's entries.
-/
import Derived.Test.YtoncpiaboceefaaDoorAa
import Derived.LaidEql
import Derived.Stop.Asserts
import Derived.RowKitTokens
namespace Go.Proofs.YtoncpiaboceefaaDoor
open Go.RowKit Go.Extern.Stop Go.Stop Go.Extern
set_option linter.unusedVariables false

abbrev hdl (t : TypeId) : Value := .agg #[.pointer (some ⟨7, t, none⟩)]
abbrev valP (a : Addr) : Value := .agg #[.pointer (some ⟨7, 138, none⟩), .pointer (some a), .int .u64 150]
abbrev valE (a : Addr) : Value := .agg #[.pointer (some ⟨7, 136, none⟩), .pointer (some a), .int .u64 409]
abbrev valS (a : Addr) : Value := .agg #[.pointer (some ⟨7, 136, none⟩), .pointer (some a), .int .u64 153]

theorem as_nil (t : Value) (w : World) :
    Calls Tryd.prog 95 #[.nilIface, t] w fun e w' => e = .returned (.bool false) ∧ w' = w := by
  go_enter Tryd.func95, Tryd.ntmps95
  go_wp2
  go_ret
  exact ⟨rfl, rfl⟩

theorem zValueOfP (t : Addr) (w : World) : (ReflectliteValue.unpack (.iface 138 (.pointer (some t)))).run Tryd.prog w = .ok (valP ⟨w.heap.size, 0, none⟩) (w.alloc (.cells #[.pointer (some t)] 138)) := by kernel_rfl
theorem zTypeP (a : Addr) (w : World) : (ReflectliteValue.methodAny (ReflectliteValue.valueError "reflectlite.Value.Type" 0) (fun t _ _ _ => ReflectliteType.toType t) #[valP a]).run Tryd.prog w = .ok (.iface 203 (hdl 138)) w := by kernel_rfl
theorem zMethodKind (h : Value) (w : World) : (Go.method 382 203 (.agg #[h]) "Kind").run Tryd.prog w = .ok (210, h) w := by kernel_rfl
theorem zMethodElem (h : Value) (w : World) : (Go.method 382 203 (.agg #[h]) "Elem").run Tryd.prog w = .ok (222, .agg #[h]) w := by kernel_rfl
theorem zMethodImplements (h : Value) (w : World) : (Go.method 382 203 (.agg #[h]) "Implements").run Tryd.prog w = .ok (223, .agg #[h]) w := by kernel_rfl
theorem zMethodAssignableTo (h : Value) (w : World) : (Go.method 382 203 (.agg #[h]) "AssignableTo").run Tryd.prog w = .ok (220, .agg #[h]) w := by kernel_rfl
theorem zKindP (w : World) : ((ReflectliteType.abiMethod fun t => (fun a : Nat => Value.int IntKind.u8 (a : Int)) <$> Rtype.kind t) #[.pointer (some ⟨7, 138, none⟩)]).run Tryd.prog w = .ok (.int .u8 22) w := by kernel_rfl
theorem zKindE (w : World) : ((ReflectliteType.abiMethod fun t => (fun a : Nat => Value.int IntKind.u8 (a : Int)) <$> Rtype.kind t) #[.pointer (some ⟨7, 136, none⟩)]).run Tryd.prog w = .ok (.int .u8 25) w := by kernel_rfl
theorem zElemT (w : World) : (ReflectliteType.method ReflectliteType.elem #[hdl 138]).run Tryd.prog w = .ok (.iface 203 (hdl 136)) w := by kernel_rfl
theorem zImpl (w : World) : (ReflectliteType.relation "Implements" ReflectliteType.implements_ #[hdl 136, .iface 203 (hdl 96)]).run Tryd.prog w = .ok (.bool true) w := by kernel_rfl
theorem zTypeOf (v : Value) (w : World) : (ReflectliteType.typeOf #[.iface 136 v]).run Tryd.prog w = .ok (.iface 203 (hdl 136)) w := by kernel_rfl
theorem zAssign (w : World) : (ReflectliteType.relation "AssignableTo" ReflectliteType.assignableTo #[hdl 136, .iface 203 (hdl 136)]).run Tryd.prog w = .ok (.bool true) w := by kernel_rfl
theorem zValueOfE (ln : Int) (w : World) : (ReflectliteValue.unpack (.iface 136 (.agg #[.int .i64 ln]))).run Tryd.prog w = .ok (valS ⟨w.heap.size, 0, none⟩) (w.alloc (.cells #[.int .i64 ln] 136)) := by kernel_rfl
theorem zPartsP (a : Addr) (w : World) : (ReflectliteValue.parts (valP a)).run Tryd.prog w = .ok (some (138, a, 150)) w := by kernel_rfl
theorem zPartsE (a : Addr) (w : World) : (ReflectliteValue.parts (valE a)).run Tryd.prog w = .ok (some (136, a, 409)) w := by kernel_rfl
theorem zPartsS (a : Addr) (w : World) : (ReflectliteValue.parts (valS a)).run Tryd.prog w = .ok (some (136, a, 153)) w := by kernel_rfl
theorem zElemOf (w : World) : (Rtype.elem? 138).run Tryd.prog w = .ok (some 136) w := by kernel_rfl
theorem zMk (p : Addr) (w : World) : (ReflectliteValue.mk 136 p ReflectliteValue.flagAddr).run Tryd.prog w = .ok (valE p) w := by kernel_rfl
theorem zDirect (w : World) : (Rtype.directlyAssignable 136 136).run Tryd.prog w = .ok true w := by kernel_rfl
theorem rlm (z : Sem Value) (f : TypeId → Addr → Nat → Nat → Sem Value) (v : Value) :
    ReflectliteValue.method z f #[v] = (do match ← ReflectliteValue.parts v with | none => z | some (t, a, fl) => f t a fl (fl % 32)) := rfl
theorem rls (v x : Value) : ReflectliteValue.set #[v, x] = (do
    let (some (dst, a, fl), some (src, b, _)) := (← ReflectliteValue.parts v, ← ReflectliteValue.parts x)
      | unsupported (.noEntry "extern/(internal/reflectlite.Value).Set.zeroValue")
    if fl / ReflectliteValue.flagAddr % 2 == 0 then unsupported (.noEntry "extern/(internal/reflectlite.Value).Set.unaddressable")
    let val ← loadVar src b
    if ← Rtype.directlyAssignable dst src then storeVar dst a val
    else if ← Rtype.implements dst src then
      if (← Rtype.kind src) == 20 then
        match val with
        | .nilIface => unsupported (.noEntry "extern/reflectlite: a nil value of one interface type handed on as a value of another")
        | _ => storeVar dst a val
      else storeVar dst a (.iface src val)
    else panicString ("reflectlite.Set: value of type " ++ (← Rtype.spelt src) ++ " is not assignable to type " ++ (← Rtype.spelt dst))
    pure (.tuple #[])) := rfl
theorem zIsNil (a p : Addr) (W : World) (ha : W.cell? a = some (.pointer (some p))) :
    (ReflectliteValue.method (ReflectliteValue.valueError "reflectlite.Value.IsNil" 0) ReflectliteValue.isNil #[valP a]).run Tryd.prog W = .ok (.bool false) W := by
  rw [rlm]
  simp only [Sem.run_bind, zPartsP, Result.andThen]
  simp [ReflectliteValue.isNil, loadVar, isAgg, underlying, Tryd.underlying138, ha, Result.andThen]
theorem zElemV (a p : Addr) (W : World) (ha : W.cell? a = some (.pointer (some p))) :
    (ReflectliteValue.method (ReflectliteValue.valueError "reflectlite.Value.Elem" 0) ReflectliteValue.elem #[valP a]).run Tryd.prog W = .ok (valE p) W := by
  rw [rlm]
  simp only [Sem.run_bind, zPartsP, Result.andThen]
  simp [ReflectliteValue.elem, loadVar, isAgg, underlying, Tryd.underlying138, ha, Result.andThen, zElemOf, zMk]
theorem zLoadS (b : Addr) (ln : Int) (W : World) (hb : W.cell? b = some (.int .i64 ln)) : (loadVar 136 b).run Tryd.prog W = .ok (.agg #[.int .i64 ln]) W := by
  have h : (loadCells b 1).run Tryd.prog W = .ok #[.int .i64 ln] W := run_loadCells_list (P := Tryd.prog) (w := W) b [.int .i64 ln] (fun j v hj => by
    have : j = 0 := by have := (List.getElem?_eq_some_iff.1 hj).1; simpa using this
    subst this
    simp at hj
    subst hj
    simpa [Addr.add] using hb)
  simp [loadVar, isAgg, underlying, Tryd.underlying136, h, Result.andThen]
theorem zSet (ta b : Addr) (ln : Int) (old : Value) (W : World) (hb : W.cell? b = some (.int .i64 ln)) (ht : W.cell? ta = some old) (hf : W.frozen? ta = false) :
    (ReflectliteValue.set #[valE ta, valS b]).run Tryd.prog W = .ok (.tuple #[]) (W.setCell ta (.int .i64 ln)) := by
  rw [rls]
  simp only [Sem.run_bind, zPartsE, zPartsS, Result.andThen]
  simp [ReflectliteValue.flagAddr, zLoadS b ln W hb, Result.andThen, zDirect, storeVar, Value.cells, storeCells, Addr.add]
  rw [run_store Tryd.prog W ta _ _ (by rfl)]
  simp [ht, hf]

set_option maxRecDepth 100000 in
set_option maxHeartbeats 4000000 in
/-- errors.As(a fault of a line, &t): it is one; t is that fault. -/
theorem as_hit (ln : Int) (t : Addr) (old : Value) (w : World) (hg : w.cell? ⟨0, 0, none⟩ = some (.iface 203 (hdl 96))) (ht0 : w.cell? t = some old) (hf0 : w.frozen? t = false) :
    Calls Tryd.prog 95 #[.iface 136 (.agg #[.int .i64 ln]), .iface 138 (.pointer (some t))] w fun e w' => e = .returned (.bool true) ∧ w' = ((((w.alloc (.cells #[.pointer (some t)] 138)).alloc (.cells #[.pointer (some ⟨7, 138, none⟩), .pointer (some ⟨w.heap.size, 0, none⟩), .int .u64 150] 176)).alloc (.cells #[.pointer (some ⟨7, 138, none⟩), .pointer (some ⟨w.heap.size, 0, none⟩), .int .u64 150] 176)).alloc (.cells #[.int .i64 ln] 136)).setCell t (.int .i64 ln) := by
  have h6 := @run_callFunc_extern Tryd.prog 131 _ (fun args => ReflectliteValue.unpack (args.getD 0 (.tuple #[]))) Tryd.func131 (by kernel_rfl) (by kernel_rfl) (by kernel_rfl) (by kernel_rfl)
  have h7 := @run_callFunc_extern Tryd.prog 132 _ (ReflectliteValue.methodAny (ReflectliteValue.valueError "reflectlite.Value.Type" 0) (fun t _ _ _ => ReflectliteType.toType t)) Tryd.func132 (by kernel_rfl) (by kernel_rfl) (by kernel_rfl) (by kernel_rfl)
  have h8 := @run_callFunc_extern Tryd.prog 133 _ (ReflectliteValue.method (ReflectliteValue.valueError "reflectlite.Value.IsNil" 0) ReflectliteValue.isNil) Tryd.func133 (by kernel_rfl) (by kernel_rfl) (by kernel_rfl) (by kernel_rfl)
  have h27 := @run_callFunc_extern Tryd.prog 210 _ (ReflectliteType.abiMethod fun t => do pure (.int .u8 (← Rtype.kind t))) Tryd.func210 (by kernel_rfl) (by kernel_rfl) (by kernel_rfl) (by kernel_rfl)
  have h37 := @run_callFunc_extern Tryd.prog 222 _ (ReflectliteType.method ReflectliteType.elem) Tryd.func222 (by kernel_rfl) (by kernel_rfl) (by kernel_rfl) (by kernel_rfl)
  have h38 := @run_callFunc_extern Tryd.prog 223 _ (ReflectliteType.relation "Implements" ReflectliteType.implements_) Tryd.func223 (by kernel_rfl) (by kernel_rfl) (by kernel_rfl) (by kernel_rfl)
  have h10 := @run_callFunc_extern Tryd.prog 156 _ ReflectliteType.typeOf Tryd.func156 (by kernel_rfl) (by kernel_rfl) (by kernel_rfl) (by kernel_rfl)
  have h35 := @run_callFunc_extern Tryd.prog 220 _ (ReflectliteType.relation "AssignableTo" ReflectliteType.assignableTo) Tryd.func220 (by kernel_rfl) (by kernel_rfl) (by kernel_rfl) (by kernel_rfl)
  have h11 := @run_callFunc_extern Tryd.prog 157 _ (ReflectliteValue.method (ReflectliteValue.valueError "reflectlite.Value.Elem" 0) ReflectliteValue.elem) Tryd.func157 (by kernel_rfl) (by kernel_rfl) (by kernel_rfl) (by kernel_rfl)
  have h12 := @run_callFunc_extern Tryd.prog 158 _ ReflectliteValue.set Tryd.func158 (by kernel_rfl) (by kernel_rfl) (by kernel_rfl) (by kernel_rfl)
  have tO := zTypeOf
  have mA := zMethodAssignableTo
  have aE := zAssign
  have vE := zValueOfE ln
  have vP := zValueOfP
  have tP := zTypeP
  have mK := zMethodKind
  have mE := zMethodElem
  have mI := zMethodImplements
  have kP := zKindP
  have kE := zKindE
  have eT := zElemT
  have iE := zImpl
  have n8 := zIsNil ⟨w.heap.size, 0, none⟩ t ((w.alloc (.cells #[.pointer (some t)] 138)).alloc (.cells #[.pointer (some ⟨7, 138, none⟩), .pointer (some ⟨w.heap.size, 0, none⟩), .int .u64 150] 176)) (by simp)
  have hlt : 0 < w.heap.size := by
    rcases Nat.eq_zero_or_pos w.heap.size with h0 | h
    · simp [World.cell?, h0] at hg
    · exact h
  have hg2 : ((w.alloc (.cells #[.pointer (some t)] 138)).alloc (.cells #[.pointer (some ⟨7, 138, none⟩), .pointer (some ⟨w.heap.size, 0, none⟩), .int .u64 150] 176)).cell? ⟨0, 0, none⟩ = some (.iface 203 (hdl 96)) := by
    rw [World.cell?_alloc_lt _ _ ⟨0, 0, none⟩ (by simp), World.cell?_alloc_lt _ _ ⟨0, 0, none⟩ hlt]; exact hg
  have htl : t.block < w.heap.size := by
    rcases Nat.lt_or_ge t.block w.heap.size with h | h
    · exact h
    · simp [World.cell?, Array.getElem?_eq_none h] at ht0
  have el := zElemV ⟨w.heap.size, 0, none⟩ t (((w.alloc (.cells #[.pointer (some t)] 138)).alloc (.cells #[.pointer (some ⟨7, 138, none⟩), .pointer (some ⟨w.heap.size, 0, none⟩), .int .u64 150] 176)).alloc (.cells #[.pointer (some ⟨7, 138, none⟩), .pointer (some ⟨w.heap.size, 0, none⟩), .int .u64 150] 176)) (by rw [World.cell?_alloc_lt _ _ ⟨w.heap.size, 0, none⟩ (by simp; omega)]; simp)
  have st := zSet t ⟨w.heap.size + 1 + 1 + 1, 0, none⟩ ln old ((((w.alloc (.cells #[.pointer (some t)] 138)).alloc (.cells #[.pointer (some ⟨7, 138, none⟩), .pointer (some ⟨w.heap.size, 0, none⟩), .int .u64 150] 176)).alloc (.cells #[.pointer (some ⟨7, 138, none⟩), .pointer (some ⟨w.heap.size, 0, none⟩), .int .u64 150] 176)).alloc (.cells #[.int .i64 ln] 136))
    (by rw [World.cell?_alloc_at _ _ _ _ (by simp)]; rfl)
    (by rw [World.cell?_alloc_lt _ _ t (by simp; omega), World.cell?_alloc_lt _ _ t (by simp; omega), World.cell?_alloc_lt _ _ t (by simp; omega), World.cell?_alloc_lt _ _ t htl]; exact ht0)
    (by rw [World.frozen?_alloc_old _ _ t (by simp; omega), World.frozen?_alloc_old _ _ t (by simp; omega), World.frozen?_alloc_old _ _ t (by simp; omega), World.frozen?_alloc_old _ _ t (Nat.ne_of_lt htl)]; exact hf0)
  go_enter Tryd.func95, Tryd.ntmps95
  go_wp2
  refine wp_loop_rounds 1 ?_
  rw [rounds_succ]
  go_wp2
  go_ret
  exact ⟨rfl, rfl⟩

end Go.Proofs.YtoncpiaboceefaaDoor
