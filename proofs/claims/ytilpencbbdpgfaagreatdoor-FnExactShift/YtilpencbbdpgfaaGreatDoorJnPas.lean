/- errors.As at an error of the program's own type, held in an interface by value, and a variable of that type: true, and the variable holds it; at no error: false. errors.As, the hit. -/
import Derived.Test.YtilpencbbdpgfaaGreatDoorJnPaa
import Derived.WalkKit
import Derived.LaidEql
import Derived.Stop.Asserts
import Derived.RowKitTokens
namespace Go.Proofs.YtilpencbbdpgfaaGreatDoor.ctr
open Go.RowKit Go.Extern.Stop Go.Stop Go.Extern
theorem as_nil (t : Value) (w : World) : Calls Tryz.prog 244 #[.nilIface, t] w fun e w' => e = .returned (.bool false) ∧ w' = w := by
  go_enter Tryz.func244, Tryz.ntmps244
  go_wp2
  go_ret
  exact ⟨rfl, rfl⟩
theorem a_valueOfP (t : Addr) (w : World) : (ReflectliteValue.unpack (.iface 246 (.pointer (some t)))).run Tryz.prog w
    = .ok (.agg #[.pointer (some ⟨10, 246, none⟩), .pointer (some ⟨w.heap.size, 0, none⟩), .int .u64 150]) (w.alloc (.cells #[.pointer (some t)] 246)) := by kernel_rfl
theorem a_typeP (a : Addr) (w : World) : (ReflectliteValue.methodAny (ReflectliteValue.valueError "reflectlite.Value.Type" 0) (fun t _ _ _ => ReflectliteType.toType t) #[.agg #[.pointer (some ⟨10, 246, none⟩), .pointer (some a), .int .u64 150]]).run Tryz.prog w
    = .ok (.iface 300 (.agg #[.pointer (some ⟨10, 246, none⟩)])) w := by kernel_rfl
theorem a_mKind (h : Value) (w : World) : (Go.method 511 300 (.agg #[h]) "Kind").run Tryz.prog w = .ok (391, h) w := by kernel_rfl
theorem a_kindP (w : World) : ((ReflectliteType.abiMethod fun t => (fun a : Nat => Value.int IntKind.u8 (a : Int)) <$> Rtype.kind t) #[.pointer (some ⟨10, 246, none⟩)]).run Tryz.prog w = .ok (.int .u8 22) w := by kernel_rfl
theorem a_kindS (w : World) : ((ReflectliteType.abiMethod fun t => (fun a : Nat => Value.int IntKind.u8 (a : Int)) <$> Rtype.kind t) #[.pointer (some ⟨10, 243, none⟩)]).run Tryz.prog w = .ok (.int .u8 25) w := by kernel_rfl
theorem a_mElem (h : Value) (w : World) : (Go.method 511 300 (.agg #[h]) "Elem").run Tryz.prog w = .ok (418, .agg #[h]) w := by kernel_rfl
theorem a_mImpl (h : Value) (w : World) : (Go.method 511 300 (.agg #[h]) "Implements").run Tryz.prog w = .ok (419, .agg #[h]) w := by kernel_rfl
theorem a_mAssign (h : Value) (w : World) : (Go.method 511 300 (.agg #[h]) "AssignableTo").run Tryz.prog w = .ok (416, .agg #[h]) w := by kernel_rfl
theorem a_elemT (w : World) : (ReflectliteType.method ReflectliteType.elem #[.agg #[.pointer (some ⟨10, 246, none⟩)]]).run Tryz.prog w = .ok (.iface 300 (.agg #[.pointer (some ⟨10, 243, none⟩)])) w := by kernel_rfl
theorem a_implS (w : World) : (ReflectliteType.relation "Implements" ReflectliteType.implements_ #[.agg #[.pointer (some ⟨10, 243, none⟩)], .iface 300 (.agg #[.pointer (some ⟨10, 192, none⟩)])]).run Tryz.prog w = .ok (.bool true) w := by kernel_rfl
theorem a_typeOfS (v : Value) (w : World) : (ReflectliteType.typeOf #[.iface 243 v]).run Tryz.prog w = .ok (.iface 300 (.agg #[.pointer (some ⟨10, 243, none⟩)])) w := by kernel_rfl
theorem a_assignS (w : World) : (ReflectliteType.relation "AssignableTo" ReflectliteType.assignableTo #[.agg #[.pointer (some ⟨10, 243, none⟩)], .iface 300 (.agg #[.pointer (some ⟨10, 243, none⟩)])]).run Tryz.prog w = .ok (.bool true) w := by kernel_rfl
theorem a_valueOfS (a b : Int) (w : World) : (ReflectliteValue.unpack (.iface 243 (.agg #[.int .i64 a, .int .i64 b]))).run Tryz.prog w
    = .ok (.agg #[.pointer (some ⟨10, 243, none⟩), .pointer (some ⟨w.heap.size, 0, none⟩), .int .u64 153]) (w.alloc (.cells #[.int .i64 a, .int .i64 b] 243)) := by kernel_rfl
theorem a_rlm (z : Sem Value) (f : TypeId → Addr → Nat → Nat → Sem Value) (v : Value) :
    ReflectliteValue.method z f #[v] = (do match ← ReflectliteValue.parts v with | none => z | some (t, a, fl) => f t a fl (fl % 32)) := rfl
theorem a_partsP (a : Addr) (w : World) : (ReflectliteValue.parts (.agg #[.pointer (some ⟨10, 246, none⟩), .pointer (some a), .int .u64 150])).run Tryz.prog w = .ok (some (246, a, 150)) w := by kernel_rfl
theorem a_isNilP (a p : Addr) (W : World) (ha : W.cell? a = some (.pointer (some p))) :
    (ReflectliteValue.method (ReflectliteValue.valueError "reflectlite.Value.IsNil" 0) ReflectliteValue.isNil #[.agg #[.pointer (some ⟨10, 246, none⟩), .pointer (some a), .int .u64 150]]).run Tryz.prog W = .ok (.bool false) W := by
  rw [a_rlm]
  simp only [Sem.run_bind, a_partsP, Result.andThen]
  simp [ReflectliteValue.isNil, loadVar, isAgg, underlying, Tryz.underlying246, ha, Result.andThen]
theorem a_elemOf (w : World) : (Rtype.elem? 246).run Tryz.prog w = .ok (some 243) w := by kernel_rfl
theorem a_mkS (p : Addr) (w : World) : (ReflectliteValue.mk 243 p ReflectliteValue.flagAddr).run Tryz.prog w = .ok (.agg #[.pointer (some ⟨10, 243, none⟩), .pointer (some p), .int .u64 409]) w := by kernel_rfl
theorem a_elemV (a p : Addr) (W : World) (ha : W.cell? a = some (.pointer (some p))) :
    (ReflectliteValue.method (ReflectliteValue.valueError "reflectlite.Value.Elem" 0) ReflectliteValue.elem #[.agg #[.pointer (some ⟨10, 246, none⟩), .pointer (some a), .int .u64 150]]).run Tryz.prog W
      = .ok (.agg #[.pointer (some ⟨10, 243, none⟩), .pointer (some p), .int .u64 409]) W := by
  rw [a_rlm]
  simp only [Sem.run_bind, a_partsP, Result.andThen]
  simp [ReflectliteValue.elem, loadVar, isAgg, underlying, Tryz.underlying246, ha, Result.andThen, a_elemOf, a_mkS]
theorem a_rls (v x : Value) : ReflectliteValue.set #[v, x] = (do
    let (some (dst, a, fl), some (src, b, _)) := (← ReflectliteValue.parts v, ← ReflectliteValue.parts x)
      | unsupported (.noEntry "extern/(internal/reflectlite.Value).Set.zeroValue")
    if fl / ReflectliteValue.flagAddr % 2 == 0 then unsupported (.noEntry "extern/(internal/reflectlite.Value).Set.unaddressable")
    let val ← loadVar src b
    if ← Rtype.directlyAssignable dst src then storeVar dst a val
    else if ← Rtype.implements dst src then
      if (← Rtype.kind src) == 20 then
        match val with
        | .nilIface => unsupported (.noEntry "extern/reflectlite: a nil value of one interface type handed on as a value of another")
        | _ => storeVar dst a val
      else storeVar dst a (.iface src val)
    else panicString ("reflectlite.Set: value of type " ++ (← Rtype.spelt src) ++ " is not assignable to type " ++ (← Rtype.spelt dst))
    pure (.tuple #[])) := rfl
theorem a_partsA (a : Addr) (w : World) : (ReflectliteValue.parts (.agg #[.pointer (some ⟨10, 243, none⟩), .pointer (some a), .int .u64 409])).run Tryz.prog w = .ok (some (243, a, 409)) w := by kernel_rfl
theorem a_partsS (a : Addr) (w : World) : (ReflectliteValue.parts (.agg #[.pointer (some ⟨10, 243, none⟩), .pointer (some a), .int .u64 153])).run Tryz.prog w = .ok (some (243, a, 153)) w := by kernel_rfl
theorem a_direct (w : World) : (Rtype.directlyAssignable 243 243).run Tryz.prog w = .ok true w := by kernel_rfl
end Go.Proofs.YtilpencbbdpgfaaGreatDoor.ctr
namespace Go.Proofs.YtilpencbbdpgfaaGreatDoor.ctr
open Go.RowKit Go.Extern.Stop Go.Stop Go.Extern
theorem a_loadS (s : Nat) (a b : Int) (W : World) (h0 : W.cell? ⟨s, 0, none⟩ = some (.int .i64 a)) (h1 : W.cell? ⟨s, 1, none⟩ = some (.int .i64 b)) : (loadVar 243 ⟨s, 0, none⟩).run Tryz.prog W = .ok (.agg #[.int .i64 a, .int .i64 b]) W := by
  go_simp
theorem a_storeS (s : Nat) (a b : Int) (W : World) (u0 u1 : Value) (h0 : W.cell? ⟨s, 0, none⟩ = some u0) (h1 : W.cell? ⟨s, 1, none⟩ = some u1) (f0 : W.frozen? ⟨s, 0, none⟩ = false) (f1 : W.frozen? ⟨s, 1, none⟩ = false) : (storeVar 243 ⟨s, 0, none⟩ (.agg #[.int .i64 a, .int .i64 b])).run Tryz.prog W = .ok () ((W.setCell ⟨s, 0, none⟩ (.int .i64 a)).setCell ⟨s, 1, none⟩ (.int .i64 b)) := by
  go_simp
theorem a_set (t s : Nat) (a b : Int) (u0 u1 : Value) (W : World) (h0 : W.cell? ⟨s, 0, none⟩ = some (.int .i64 a)) (h1 : W.cell? ⟨s, 1, none⟩ = some (.int .i64 b)) (g0 : W.cell? ⟨t, 0, none⟩ = some u0) (g1 : W.cell? ⟨t, 1, none⟩ = some u1) (f0 : W.frozen? ⟨t, 0, none⟩ = false) (f1 : W.frozen? ⟨t, 1, none⟩ = false) :
    (ReflectliteValue.set #[.agg #[.pointer (some ⟨10, 243, none⟩), .pointer (some ⟨t, 0, none⟩), .int .u64 409], .agg #[.pointer (some ⟨10, 243, none⟩), .pointer (some ⟨s, 0, none⟩), .int .u64 153]]).run Tryz.prog W
      = .ok (.tuple #[]) ((W.setCell ⟨t, 0, none⟩ (.int .i64 a)).setCell ⟨t, 1, none⟩ (.int .i64 b)) := by
  rw [a_rls]
  simp only [Sem.run_bind, a_partsA, a_partsS, Result.andThen]
  simp [ReflectliteValue.flagAddr, a_loadS s a b W h0 h1, Result.andThen, a_direct, a_storeS t a b W u0 u1 g0 g1 f0 f1]
set_option maxRecDepth 100000 in
set_option maxHeartbeats 4000000 in
theorem as_hit (a b : Int) (t : Nat) (u0 u1 : Value) (w : World) (hg : w.cell? ⟨3, 0, none⟩ = some (.iface 300 (.agg #[.pointer (some ⟨10, 192, none⟩)]))) (ht : Blk w t #[u0, u1] 243) :
    Calls Tryz.prog 244 #[.iface 243 (.agg #[.int .i64 a, .int .i64 b]), .iface 246 (.pointer (some ⟨t, 0, none⟩))] w fun ev w' => ev = .returned (.bool true) ∧ w' = ((((((w.alloc (.cells #[.pointer (some ⟨t, 0, none⟩)] 246)).alloc (.cells #[.pointer (some ⟨10, 246, none⟩), .pointer (some ⟨w.heap.size, 0, none⟩), .int .u64 150] 289)).alloc (.cells #[.pointer (some ⟨10, 246, none⟩), .pointer (some ⟨w.heap.size, 0, none⟩), .int .u64 150] 289)).alloc (.cells #[.int .i64 a, .int .i64 b] 243)).setCell ⟨t, 0, none⟩ (.int .i64 a)).setCell ⟨t, 1, none⟩ (.int .i64 b)) := by
  have h6 := @run_callFunc_extern Tryz.prog 291 _ (fun args => ReflectliteValue.unpack (args.getD 0 (.tuple #[]))) Tryz.func291 (by kernel_rfl) (by kernel_rfl) (by kernel_rfl) (by kernel_rfl)
  have h7 := @run_callFunc_extern Tryz.prog 292 _ (ReflectliteValue.methodAny (ReflectliteValue.valueError "reflectlite.Value.Type" 0) (fun t _ _ _ => ReflectliteType.toType t)) Tryz.func292 (by kernel_rfl) (by kernel_rfl) (by kernel_rfl) (by kernel_rfl)
  have h8 := @run_callFunc_extern Tryz.prog 293 _ (ReflectliteValue.method (ReflectliteValue.valueError "reflectlite.Value.IsNil" 0) ReflectliteValue.isNil) Tryz.func293 (by kernel_rfl) (by kernel_rfl) (by kernel_rfl) (by kernel_rfl)
  have h27 := @run_callFunc_extern Tryz.prog 391 _ (ReflectliteType.abiMethod fun t => do pure (.int .u8 (← Rtype.kind t))) Tryz.func391 (by kernel_rfl) (by kernel_rfl) (by kernel_rfl) (by kernel_rfl)
  have h37 := @run_callFunc_extern Tryz.prog 418 _ (ReflectliteType.method ReflectliteType.elem) Tryz.func418 (by kernel_rfl) (by kernel_rfl) (by kernel_rfl) (by kernel_rfl)
  have h38 := @run_callFunc_extern Tryz.prog 419 _ (ReflectliteType.relation "Implements" ReflectliteType.implements_) Tryz.func419 (by kernel_rfl) (by kernel_rfl) (by kernel_rfl) (by kernel_rfl)
  have h10 := @run_callFunc_extern Tryz.prog 246 _ ReflectliteType.typeOf Tryz.func246 (by kernel_rfl) (by kernel_rfl) (by kernel_rfl) (by kernel_rfl)
  have h35 := @run_callFunc_extern Tryz.prog 416 _ (ReflectliteType.relation "AssignableTo" ReflectliteType.assignableTo) Tryz.func416 (by kernel_rfl) (by kernel_rfl) (by kernel_rfl) (by kernel_rfl)
  have h11 := @run_callFunc_extern Tryz.prog 319 _ (ReflectliteValue.method (ReflectliteValue.valueError "reflectlite.Value.Elem" 0) ReflectliteValue.elem) Tryz.func319 (by kernel_rfl) (by kernel_rfl) (by kernel_rfl) (by kernel_rfl)
  have h12 := @run_callFunc_extern Tryz.prog 320 _ ReflectliteValue.set Tryz.func320 (by kernel_rfl) (by kernel_rfl) (by kernel_rfl) (by kernel_rfl)
  have tO := a_typeOfS
  have mA := a_mAssign
  have aS := a_assignS
  have vS := a_valueOfS
  have f6 := a_valueOfP
  have f7 := a_typeP
  have mK := a_mKind
  have mE := a_mElem
  have mI := a_mImpl
  have kP := a_kindP
  have kS := a_kindS
  have eT := a_elemT
  have iS := a_implS
  have n8 := a_isNilP ⟨w.heap.size, 0, none⟩ ⟨t, 0, none⟩ ((w.alloc (.cells #[.pointer (some ⟨t, 0, none⟩)] 246)).alloc (.cells #[.pointer (some ⟨10, 246, none⟩), .pointer (some ⟨w.heap.size, 0, none⟩), .int .u64 150] 289)) (by simp)
  have hlt : 3 < w.heap.size := by
    rcases Nat.lt_or_ge 3 w.heap.size with h | h
    · exact h
    · simp [World.cell?, Array.getElem?_eq_none h] at hg
  have hg2 : ((w.alloc (.cells #[.pointer (some ⟨t, 0, none⟩)] 246)).alloc (.cells #[.pointer (some ⟨10, 246, none⟩), .pointer (some ⟨w.heap.size, 0, none⟩), .int .u64 150] 289)).cell? ⟨3, 0, none⟩ = some (.iface 300 (.agg #[.pointer (some ⟨10, 192, none⟩)])) := by
    rw [World.cell?_alloc_lt _ _ ⟨3, 0, none⟩ (by rw [World.size_alloc]; exact Nat.lt_succ_of_lt hlt), World.cell?_alloc_lt _ _ ⟨3, 0, none⟩ hlt]; exact hg
  have htl := ht.lt
  have el := a_elemV ⟨w.heap.size, 0, none⟩ ⟨t, 0, none⟩ (((w.alloc (.cells #[.pointer (some ⟨t, 0, none⟩)] 246)).alloc (.cells #[.pointer (some ⟨10, 246, none⟩), .pointer (some ⟨w.heap.size, 0, none⟩), .int .u64 150] 289)).alloc (.cells #[.pointer (some ⟨10, 246, none⟩), .pointer (some ⟨w.heap.size, 0, none⟩), .int .u64 150] 289)) (by rw [World.cell?_alloc_lt _ _ ⟨w.heap.size, 0, none⟩ (by simp; omega)]; simp)
  have HT := (((ht.alloc (.cells #[.pointer (some ⟨t, 0, none⟩)] 246)).alloc (.cells #[.pointer (some ⟨10, 246, none⟩), .pointer (some ⟨w.heap.size, 0, none⟩), .int .u64 150] 289)).alloc (.cells #[.pointer (some ⟨10, 246, none⟩), .pointer (some ⟨w.heap.size, 0, none⟩), .int .u64 150] 289)).alloc (.cells #[.int .i64 a, .int .i64 b] 243)
  have HN := Blk.new (((w.alloc (.cells #[.pointer (some ⟨t, 0, none⟩)] 246)).alloc (.cells #[.pointer (some ⟨10, 246, none⟩), .pointer (some ⟨w.heap.size, 0, none⟩), .int .u64 150] 289)).alloc (.cells #[.pointer (some ⟨10, 246, none⟩), .pointer (some ⟨w.heap.size, 0, none⟩), .int .u64 150] 289)) #[.int .i64 a, .int .i64 b] 243
  rw [World.size_alloc, World.size_alloc, World.size_alloc] at HN
  have st := a_set t (w.heap.size + 1 + 1 + 1) a b u0 u1 _ (HN.cell 0 rfl) (HN.cell 1 rfl) (HT.cell 0 rfl) (HT.cell 1 rfl) (HT.thaw 0) (HT.thaw 1)
  clear HT HN
  go_enter Tryz.func244, Tryz.ntmps244
  go_wp2
  refine wp_loop_rounds 1 ?_
  rw [rounds_succ]
  go_wp2
  go_ret
  exact ⟨rfl, rfl⟩
end Go.Proofs.YtilpencbbdpgfaaGreatDoor.ctr
