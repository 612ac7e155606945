/- errors.As at an error of the program's own type, held in an interface by value, and a variable of that type: true, and the variable holds it; at no error: false. errors.As, the hit. What a style is, and its name: the model's StyleName and the program's styleOk answer their plain functions at every number. Lists of ints in rows of their own ('MovRow': in a block that was not there in w; 'IntRow': anywhere), and the contracts of the laws' own helpers over lists of ints (eqIntS, sameInts, markIntS, heldIntS): two lists alike are told alike; marks are written into a list's own row, and found there again; nothing else turns. The state of a loop that puts a list of ints together by append: they lie in a row of their own. A whole array by value, of no program: loaded out of its block, stored into a block of its own, handed back. A region that draws its order, one of whose calls may end in a panic. A region that draws its order, in which calls (each behind the one ahead of it) and makings of blocks (at any time) come ahead of all else: whatever order is picked, the same is known behind them. A row of ints in a block, whatever lies behind it: what is read of it, what a store, a sort, a clearing make of it; what a pass that keeps some of them leaves. -/
import Derived.Test.YtdmlhiailjnhcaaGreatDoorJnYaa
import Derived.WalkKit
import Derived.LaidEql
import Derived.Stop.Asserts
import Derived.RowKitTokens
import Derived.Laws.AppendOwn
import Derived.PlainAid
import Derived.Deep.WholeRow
import Derived.Deep.RegionHeld2
import Derived.Deep.RegionHeld
import Derived.Sort.Row
import Derived.Sort.Grow
import Derived.Lib.LazyBuf
namespace Go.Proofs.YtdmlhiailjnhcaaGreatDoor.ctr
open Go.RowKit Go.Extern.Stop Go.Stop Go.Extern
theorem as_nil (t : Value) (w : World) : Calls Tryz.prog 201 #[.nilIface, t] w fun e w' => e = .returned (.bool false) ∧ w' = w := by
 go_enter Tryz.func201, Tryz.ntmps201
 go_wp2
 go_ret
 exact ⟨rfl, rfl⟩
theorem a_valueOfP (t : Addr) (w : World) : (ReflectliteValue.unpack (.iface 219 (.pointer (some t)))).run Tryz.prog w
    = .ok (.agg #[.pointer (some ⟨10, 219, none⟩), .pointer (some ⟨w.heap.size, 0, none⟩), .int .u64 150]) (w.alloc (.cells #[.pointer (some t)] 219)) := by kernel_rfl
theorem a_typeP (a : Addr) (w : World) : (ReflectliteValue.methodAny (ReflectliteValue.valueError "reflectlite.Value.Type" 0) (fun t _ _ _ => ReflectliteType.toType t) #[.agg #[.pointer (some ⟨10, 219, none⟩), .pointer (some a), .int .u64 150]]).run Tryz.prog w
    = .ok (.iface 269 (.agg #[.pointer (some ⟨10, 219, none⟩)])) w := by kernel_rfl
theorem a_mKind (h : Value) (w : World) : (Go.method 472 269 (.agg #[h]) "Kind").run Tryz.prog w = .ok (332, h) w := by kernel_rfl
theorem a_kindP (w : World) : ((ReflectliteType.abiMethod fun t => (fun a : Nat => Value.int IntKind.u8 (a : Int)) <$> Rtype.kind t) #[.pointer (some ⟨10, 219, none⟩)]).run Tryz.prog w = .ok (.int .u8 22) w := by kernel_rfl
theorem a_kindS (w : World) : ((ReflectliteType.abiMethod fun t => (fun a : Nat => Value.int IntKind.u8 (a : Int)) <$> Rtype.kind t) #[.pointer (some ⟨10, 216, none⟩)]).run Tryz.prog w = .ok (.int .u8 25) w := by kernel_rfl
theorem a_mElem (h : Value) (w : World) : (Go.method 472 269 (.agg #[h]) "Elem").run Tryz.prog w = .ok (359, .agg #[h]) w := by kernel_rfl
theorem a_mImpl (h : Value) (w : World) : (Go.method 472 269 (.agg #[h]) "Implements").run Tryz.prog w = .ok (360, .agg #[h]) w := by kernel_rfl
theorem a_mAssign (h : Value) (w : World) : (Go.method 472 269 (.agg #[h]) "AssignableTo").run Tryz.prog w = .ok (357, .agg #[h]) w := by kernel_rfl
theorem a_elemT (w : World) : (ReflectliteType.method ReflectliteType.elem #[.agg #[.pointer (some ⟨10, 219, none⟩)]]).run Tryz.prog w = .ok (.iface 269 (.agg #[.pointer (some ⟨10, 216, none⟩)])) w := by kernel_rfl
theorem a_implS (w : World) : (ReflectliteType.relation "Implements" ReflectliteType.implements_ #[.agg #[.pointer (some ⟨10, 216, none⟩)], .iface 269 (.agg #[.pointer (some ⟨10, 181, none⟩)])]).run Tryz.prog w = .ok (.bool true) w := by kernel_rfl
theorem a_typeOfS (v : Value) (w : World) : (ReflectliteType.typeOf #[.iface 216 v]).run Tryz.prog w = .ok (.iface 269 (.agg #[.pointer (some ⟨10, 216, none⟩)])) w := by kernel_rfl
theorem a_assignS (w : World) : (ReflectliteType.relation "AssignableTo" ReflectliteType.assignableTo #[.agg #[.pointer (some ⟨10, 216, none⟩)], .iface 269 (.agg #[.pointer (some ⟨10, 216, none⟩)])]).run Tryz.prog w = .ok (.bool true) w := by kernel_rfl
theorem a_valueOfS (a b : Int) (w : World) : (ReflectliteValue.unpack (.iface 216 (.agg #[.int .i64 a, .int .i64 b]))).run Tryz.prog w
    = .ok (.agg #[.pointer (some ⟨10, 216, none⟩), .pointer (some ⟨w.heap.size, 0, none⟩), .int .u64 153]) (w.alloc (.cells #[.int .i64 a, .int .i64 b] 216)) := by kernel_rfl
theorem a_rlm (z : Sem Value) (f : TypeId → Addr → Nat → Nat → Sem Value) (v : Value) :
    ReflectliteValue.method z f #[v] = (do match ← ReflectliteValue.parts v with | none => z | some (t, a, fl) => f t a fl (fl % 32)) := rfl
theorem a_partsP (a : Addr) (w : World) : (ReflectliteValue.parts (.agg #[.pointer (some ⟨10, 219, none⟩), .pointer (some a), .int .u64 150])).run Tryz.prog w = .ok (some (219, a, 150)) w := by kernel_rfl
theorem a_isNilP (a p : Addr) (W : World) (ha : W.cell? a = some (.pointer (some p))) :
    (ReflectliteValue.method (ReflectliteValue.valueError "reflectlite.Value.IsNil" 0) ReflectliteValue.isNil #[.agg #[.pointer (some ⟨10, 219, none⟩), .pointer (some a), .int .u64 150]]).run Tryz.prog W = .ok (.bool false) W := by
  rw [a_rlm]
  simp only [Sem.run_bind, a_partsP, Result.andThen]
  simp [ReflectliteValue.isNil, loadVar, isAgg, underlying, Tryz.underlying219, ha, Result.andThen]
theorem a_elemOf (w : World) : (Rtype.elem? 219).run Tryz.prog w = .ok (some 216) w := by kernel_rfl
theorem a_mkS (p : Addr) (w : World) : (ReflectliteValue.mk 216 p ReflectliteValue.flagAddr).run Tryz.prog w = .ok (.agg #[.pointer (some ⟨10, 216, none⟩), .pointer (some p), .int .u64 409]) w := by kernel_rfl
theorem a_elemV (a p : Addr) (W : World) (ha : W.cell? a = some (.pointer (some p))) :
    (ReflectliteValue.method (ReflectliteValue.valueError "reflectlite.Value.Elem" 0) ReflectliteValue.elem #[.agg #[.pointer (some ⟨10, 219, none⟩), .pointer (some a), .int .u64 150]]).run Tryz.prog W
      = .ok (.agg #[.pointer (some ⟨10, 216, none⟩), .pointer (some p), .int .u64 409]) W := by
  rw [a_rlm]
  simp only [Sem.run_bind, a_partsP, Result.andThen]
  simp [ReflectliteValue.elem, loadVar, isAgg, underlying, Tryz.underlying219, ha, Result.andThen, a_elemOf, a_mkS]
theorem a_rls (v x : Value) : ReflectliteValue.set #[v, x] = (do
 let (some (dst, a, fl), some (src, b, _)) := (← ReflectliteValue.parts v, ← ReflectliteValue.parts x)
   | unsupported (.noEntry "extern/(internal/reflectlite.Value).Set.zeroValue")
 if fl / ReflectliteValue.flagAddr % 2 == 0 then unsupported (.noEntry "extern/(internal/reflectlite.Value).Set.unaddressable")
 let val ← loadVar src b
 if ← Rtype.directlyAssignable dst src then storeVar dst a val
 else if ← Rtype.implements dst src then
  if (← Rtype.kind src) == 20 then
   match val with
   | .nilIface => unsupported (.noEntry "extern/reflectlite: a nil value of one interface type handed on as a value of another")
   | _ => storeVar dst a val
  else storeVar dst a (.iface src val)
 else panicString ("reflectlite.Set: value of type " ++ (← Rtype.spelt src) ++ " is not assignable to type " ++ (← Rtype.spelt dst))
 pure (.tuple #[])) := rfl
theorem a_partsA (a : Addr) (w : World) : (ReflectliteValue.parts (.agg #[.pointer (some ⟨10, 216, none⟩), .pointer (some a), .int .u64 409])).run Tryz.prog w = .ok (some (216, a, 409)) w := by kernel_rfl
theorem a_partsS (a : Addr) (w : World) : (ReflectliteValue.parts (.agg #[.pointer (some ⟨10, 216, none⟩), .pointer (some a), .int .u64 153])).run Tryz.prog w = .ok (some (216, a, 153)) w := by kernel_rfl
theorem a_direct (w : World) : (Rtype.directlyAssignable 216 216).run Tryz.prog w = .ok true w := by kernel_rfl
end Go.Proofs.YtdmlhiailjnhcaaGreatDoor.ctr
namespace Go.Proofs.YtdmlhiailjnhcaaGreatDoor.ctr
open Go.RowKit Go.Extern.Stop Go.Stop Go.Extern
theorem a_loadS (s : Nat) (a b : Int) (W : World) (h0 : W.cell? ⟨s, 0, none⟩ = some (.int .i64 a)) (h1 : W.cell? ⟨s, 1, none⟩ = some (.int .i64 b)) : (loadVar 216 ⟨s, 0, none⟩).run Tryz.prog W = .ok (.agg #[.int .i64 a, .int .i64 b]) W := by
 go_simp
theorem a_storeS (s : Nat) (a b : Int) (W : World) (u0 u1 : Value) (h0 : W.cell? ⟨s, 0, none⟩ = some u0) (h1 : W.cell? ⟨s, 1, none⟩ = some u1) (f0 : W.frozen? ⟨s, 0, none⟩ = false) (f1 : W.frozen? ⟨s, 1, none⟩ = false) : (storeVar 216 ⟨s, 0, none⟩ (.agg #[.int .i64 a, .int .i64 b])).run Tryz.prog W = .ok () ((W.setCell ⟨s, 0, none⟩ (.int .i64 a)).setCell ⟨s, 1, none⟩ (.int .i64 b)) := by
 go_simp
theorem a_set (t s : Nat) (a b : Int) (u0 u1 : Value) (W : World) (h0 : W.cell? ⟨s, 0, none⟩ = some (.int .i64 a)) (h1 : W.cell? ⟨s, 1, none⟩ = some (.int .i64 b)) (g0 : W.cell? ⟨t, 0, none⟩ = some u0) (g1 : W.cell? ⟨t, 1, none⟩ = some u1) (f0 : W.frozen? ⟨t, 0, none⟩ = false) (f1 : W.frozen? ⟨t, 1, none⟩ = false) :
    (ReflectliteValue.set #[.agg #[.pointer (some ⟨10, 216, none⟩), .pointer (some ⟨t, 0, none⟩), .int .u64 409], .agg #[.pointer (some ⟨10, 216, none⟩), .pointer (some ⟨s, 0, none⟩), .int .u64 153]]).run Tryz.prog W
      = .ok (.tuple #[]) ((W.setCell ⟨t, 0, none⟩ (.int .i64 a)).setCell ⟨t, 1, none⟩ (.int .i64 b)) := by
  rw [a_rls]
  simp only [Sem.run_bind, a_partsA, a_partsS, Result.andThen]
  simp [ReflectliteValue.flagAddr, a_loadS s a b W h0 h1, Result.andThen, a_direct, a_storeS t a b W u0 u1 g0 g1 f0 f1]
set_option maxRecDepth 100000 in
set_option maxHeartbeats 4000000 in
theorem as_hit (a b : Int) (t : Nat) (u0 u1 : Value) (w : World) (hg : w.cell? ⟨4, 0, none⟩ = some (.iface 269 (.agg #[.pointer (some ⟨10, 181, none⟩)]))) (ht : Blk w t #[u0, u1] 216) :
    Calls Tryz.prog 201 #[.iface 216 (.agg #[.int .i64 a, .int .i64 b]), .iface 219 (.pointer (some ⟨t, 0, none⟩))] w fun ev w' => ev = .returned (.bool true) ∧ w' = ((((((w.alloc (.cells #[.pointer (some ⟨t, 0, none⟩)] 219)).alloc (.cells #[.pointer (some ⟨10, 219, none⟩), .pointer (some ⟨w.heap.size, 0, none⟩), .int .u64 150] 258)).alloc (.cells #[.pointer (some ⟨10, 219, none⟩), .pointer (some ⟨w.heap.size, 0, none⟩), .int .u64 150] 258)).alloc (.cells #[.int .i64 a, .int .i64 b] 216)).setCell ⟨t, 0, none⟩ (.int .i64 a)).setCell ⟨t, 1, none⟩ (.int .i64 b)) := by
  have h6 := @run_callFunc_extern Tryz.prog 244 _ (fun args => ReflectliteValue.unpack (args.getD 0 (.tuple #[]))) Tryz.func244 (by kernel_rfl) (by kernel_rfl) (by kernel_rfl) (by kernel_rfl)
  have h7 := @run_callFunc_extern Tryz.prog 245 _ (ReflectliteValue.methodAny (ReflectliteValue.valueError "reflectlite.Value.Type" 0) (fun t _ _ _ => ReflectliteType.toType t)) Tryz.func245 (by kernel_rfl) (by kernel_rfl) (by kernel_rfl) (by kernel_rfl)
  have h8 := @run_callFunc_extern Tryz.prog 246 _ (ReflectliteValue.method (ReflectliteValue.valueError "reflectlite.Value.IsNil" 0) ReflectliteValue.isNil) Tryz.func246 (by kernel_rfl) (by kernel_rfl) (by kernel_rfl) (by kernel_rfl)
  have h27 := @run_callFunc_extern Tryz.prog 332 _ (ReflectliteType.abiMethod fun t => do pure (.int .u8 (← Rtype.kind t))) Tryz.func332 (by kernel_rfl) (by kernel_rfl) (by kernel_rfl) (by kernel_rfl)
  have h37 := @run_callFunc_extern Tryz.prog 359 _ (ReflectliteType.method ReflectliteType.elem) Tryz.func359 (by kernel_rfl) (by kernel_rfl) (by kernel_rfl) (by kernel_rfl)
  have h38 := @run_callFunc_extern Tryz.prog 360 _ (ReflectliteType.relation "Implements" ReflectliteType.implements_) Tryz.func360 (by kernel_rfl) (by kernel_rfl) (by kernel_rfl) (by kernel_rfl)
  have h10 := @run_callFunc_extern Tryz.prog 203 _ ReflectliteType.typeOf Tryz.func203 (by kernel_rfl) (by kernel_rfl) (by kernel_rfl) (by kernel_rfl)
  have h35 := @run_callFunc_extern Tryz.prog 357 _ (ReflectliteType.relation "AssignableTo" ReflectliteType.assignableTo) Tryz.func357 (by kernel_rfl) (by kernel_rfl) (by kernel_rfl) (by kernel_rfl)
  have h11 := @run_callFunc_extern Tryz.prog 268 _ (ReflectliteValue.method (ReflectliteValue.valueError "reflectlite.Value.Elem" 0) ReflectliteValue.elem) Tryz.func268 (by kernel_rfl) (by kernel_rfl) (by kernel_rfl) (by kernel_rfl)
  have h12 := @run_callFunc_extern Tryz.prog 269 _ ReflectliteValue.set Tryz.func269 (by kernel_rfl) (by kernel_rfl) (by kernel_rfl) (by kernel_rfl)
  have tO := a_typeOfS
  have mA := a_mAssign
  have aS := a_assignS
  have vS := a_valueOfS
  have f6 := a_valueOfP
  have f7 := a_typeP
  have mK := a_mKind
  have mE := a_mElem
  have mI := a_mImpl
  have kP := a_kindP
  have kS := a_kindS
  have eT := a_elemT
  have iS := a_implS
  have n8 := a_isNilP ⟨w.heap.size, 0, none⟩ ⟨t, 0, none⟩ ((w.alloc (.cells #[.pointer (some ⟨t, 0, none⟩)] 219)).alloc (.cells #[.pointer (some ⟨10, 219, none⟩), .pointer (some ⟨w.heap.size, 0, none⟩), .int .u64 150] 258)) (by simp)
  have hlt : 4 < w.heap.size := by
   rcases Nat.lt_or_ge 4 w.heap.size with h | h
   · exact h
   · simp [World.cell?, Array.getElem?_eq_none h] at hg
  have hg2 : ((w.alloc (.cells #[.pointer (some ⟨t, 0, none⟩)] 219)).alloc (.cells #[.pointer (some ⟨10, 219, none⟩), .pointer (some ⟨w.heap.size, 0, none⟩), .int .u64 150] 258)).cell? ⟨4, 0, none⟩ = some (.iface 269 (.agg #[.pointer (some ⟨10, 181, none⟩)])) := by
   rw [World.cell?_alloc_lt _ _ ⟨4, 0, none⟩ (by rw [World.size_alloc]; exact Nat.lt_succ_of_lt hlt), World.cell?_alloc_lt _ _ ⟨4, 0, none⟩ hlt]; exact hg
  have htl := ht.lt
  have el := a_elemV ⟨w.heap.size, 0, none⟩ ⟨t, 0, none⟩ (((w.alloc (.cells #[.pointer (some ⟨t, 0, none⟩)] 219)).alloc (.cells #[.pointer (some ⟨10, 219, none⟩), .pointer (some ⟨w.heap.size, 0, none⟩), .int .u64 150] 258)).alloc (.cells #[.pointer (some ⟨10, 219, none⟩), .pointer (some ⟨w.heap.size, 0, none⟩), .int .u64 150] 258)) (by rw [World.cell?_alloc_lt _ _ ⟨w.heap.size, 0, none⟩ (by simp; omega)]; simp)
  have HT := (((ht.alloc (.cells #[.pointer (some ⟨t, 0, none⟩)] 219)).alloc (.cells #[.pointer (some ⟨10, 219, none⟩), .pointer (some ⟨w.heap.size, 0, none⟩), .int .u64 150] 258)).alloc (.cells #[.pointer (some ⟨10, 219, none⟩), .pointer (some ⟨w.heap.size, 0, none⟩), .int .u64 150] 258)).alloc (.cells #[.int .i64 a, .int .i64 b] 216)
  have HN := Blk.new (((w.alloc (.cells #[.pointer (some ⟨t, 0, none⟩)] 219)).alloc (.cells #[.pointer (some ⟨10, 219, none⟩), .pointer (some ⟨w.heap.size, 0, none⟩), .int .u64 150] 258)).alloc (.cells #[.pointer (some ⟨10, 219, none⟩), .pointer (some ⟨w.heap.size, 0, none⟩), .int .u64 150] 258)) #[.int .i64 a, .int .i64 b] 216
  rw [World.size_alloc, World.size_alloc, World.size_alloc] at HN
  have st := a_set t (w.heap.size + 1 + 1 + 1) a b u0 u1 _ (HN.cell 0 rfl) (HN.cell 1 rfl) (HT.cell 0 rfl) (HT.cell 1 rfl) (HT.thaw 0) (HT.thaw 1)
  clear HT HN
  go_enter Tryz.func201, Tryz.ntmps201
  go_wp2
  refine wp_loop_rounds 1 ?_
  rw [rounds_succ]
  go_wp2
  go_ret
  exact ⟨rfl, rfl⟩
end Go.Proofs.YtdmlhiailjnhcaaGreatDoor.ctr
namespace Go.Proofs.YtdmlhiailjnhcaaGreatDoor.ctr
open Go.RowKit
def styleP (s : Int) : Prop := 0 ≤ s ∧ s ≤ 6
instance (s : Int) : Decidable (styleP s) := by unfold styleP; infer_instance
def styleB (s : Int) : Bool := decide (styleP s)
theorem styleB_true {s : Int} (h : styleP s) : styleB s = true := decide_eq_true h
theorem styleB_false {s : Int} (h : ¬ styleP s) : styleB s = false := decide_eq_false h
theorem style_cases {s : Int} (h : styleP s) : s = 0 ∨ s = 1 ∨ s = 2 ∨ s = 3 ∨ s = 4 ∨ s = 5 ∨ s = 6 := by unfold styleP at h; omega
def stys : List (List UInt8) := [[106, 97, 110], [109, 97, 114, 99, 104], [108, 97, 100, 121], [112, 105, 115, 97], [101, 97, 115, 116, 101, 114], [115, 101, 112, 116], [121, 117, 108, 101]]
def styText (s : Int) : ByteArray := ⟨(if styleP s then stys.getD s.toNat [] else []).toArray⟩
theorem styText_no {s : Int} (h : ¬ styleP s) : styText s = ⟨#[]⟩ := by unfold styText; rw [if_neg h]
theorem styText_some {s : Int} (h : styleP s) : (styText s).toList.isEmpty = false := by
 rw [ByteArray.toList_eq]
 rcases style_cases h with rfl | rfl | rfl | rfl | rfl | rfl | rfl <;> rfl
theorem styText_none {s : Int} (h : ¬ styleP s) : (styText s).toList.isEmpty = true := by rw [styText_no h, ByteArray.toList_eq]; rfl
theorem styleB_in (s : Int) : inB s 0 6 = styleB s := by
 by_cases h : styleP s
 · rw [styleB_true h, inB_true h.1 h.2]
 · rw [styleB_false h, inB_false]
   unfold styleP at h
   omega
def styVals : Array Value := (stys.map fun s => Value.string ⟨s.toArray⟩).toArray
theorem specNames (w : World) : Calls Tryz.prog 172 #[] w fun e w' => e = .returned (.slice (some ⟨w.heap.size, 0, none⟩) 7 7) ∧ w' = w.alloc (.cells styVals 9) := by
 go_enter Tryz.func172, Tryz.ntmps172
 go_wp2
 go_ret
 exact ⟨rfl, rfl⟩
set_option maxHeartbeats 400000 in
theorem specStyleName (s : Int) (w : World) : CR 131 #[.int .i64 s] w (.string (styText s)) := by
 have KI := l01In s 0 6 w
 rw [styleB_in] at KI
 by_cases h : styleP s
 · rw [styleB_true h] at KI
   rcases style_cases h with rfl | rfl | rfl | rfl | rfl | rfl | rfl
   all_goals
    clear h
    go_enter Tryz.func131, Tryz.ntmps131
    go_wp2_with fail
    refine KI.mono ?_
    rintro e w1 ⟨rfl, hw0⟩
    rw [hw0]
    clear hw0
    go_wp2_with fail
    refine (specNames _).mono ?_
    rintro e w1 ⟨rfl, hw⟩
   focus
     have c : w1.cell? ⟨w.heap.size, 0, none⟩ = some (.string (styText 0)) := by rw [hw]; exact (Blk.new w styVals _).cell 0 rfl
   rotate_left
   focus
     have c : w1.cell? ⟨w.heap.size, 1, none⟩ = some (.string (styText 1)) := by rw [hw]; exact (Blk.new w styVals _).cell 1 rfl
   rotate_left
   focus
     have c : w1.cell? ⟨w.heap.size, 2, none⟩ = some (.string (styText 2)) := by rw [hw]; exact (Blk.new w styVals _).cell 2 rfl
   rotate_left
   focus
     have c : w1.cell? ⟨w.heap.size, 3, none⟩ = some (.string (styText 3)) := by rw [hw]; exact (Blk.new w styVals _).cell 3 rfl
   rotate_left
   focus
     have c : w1.cell? ⟨w.heap.size, 4, none⟩ = some (.string (styText 4)) := by rw [hw]; exact (Blk.new w styVals _).cell 4 rfl
   rotate_left
   focus
     have c : w1.cell? ⟨w.heap.size, 5, none⟩ = some (.string (styText 5)) := by rw [hw]; exact (Blk.new w styVals _).cell 5 rfl
   rotate_left
   focus
     have c : w1.cell? ⟨w.heap.size, 6, none⟩ = some (.string (styText 6)) := by rw [hw]; exact (Blk.new w styVals _).cell 6 rfl
   rotate_left
   all_goals
    have HB : Hid (Below w.heap.size w w1) := by unfold Hid; rw [hw]; exact (Below.refl _ _).alloc (Nat.le_refl _) _
    clear hw
    go_wp2
    go_ret
    exact ⟨rfl, HB.out⟩
 · rw [styleB_false h] at KI
   rw [styText_no h]
   clear h
   go_enter Tryz.func131, Tryz.ntmps131
   go_wp2_with fail
   refine KI.mono ?_
   rintro e w1 ⟨rfl, rfl⟩
   go_wp2
   go_ret
   exact ⟨rfl, Below.refl _ _⟩
theorem implStyleOk (s : Int) (w : World) : Calls Tryz.prog 181 #[.int .i64 s] w fun e w' => e = .returned (.bool (styleB s)) ∧ w' = w := by
 by_cases h1 : 0 ≤ s
 · by_cases h2 : s < 7
   · rw [styleB_true ⟨h1, by omega⟩]
     go_enter Tryz.func181, Tryz.ntmps181
     go_wp2
     go_ret
     exact ⟨rfl, rfl⟩
   · rw [styleB_false (by unfold styleP; omega)]
     have hd : decide (s < 7) = false := decide_eq_false h2
     go_enter Tryz.func181, Tryz.ntmps181
     go_wp2
     go_ret
     exact ⟨rfl, rfl⟩
 · rw [styleB_false (by unfold styleP; omega)]
   have hd : decide (0 ≤ s) = false := decide_eq_false h1
   go_enter Tryz.func181, Tryz.ntmps181
   go_wp2
   go_ret
   exact ⟨rfl, rfl⟩
end Go.Proofs.YtdmlhiailjnhcaaGreatDoor.ctr
namespace Go.Proofs.YtdmlhiailjnhcaaGreatDoor.ctr
open Go.RowKit
def ints (l : List Int) : Array Value := (l.map (Value.int .i64)).toArray
theorem ints_at (l : List Int) (j : Nat) (h : j < l.length) : (ints l)[j]? = some (.int .i64 (l.getD j 0)) := by
 simp [ints, List.getD, h]
theorem ints_set (l : List Int) (k : Nat) (z : Int) : (ints l).setIfInBounds k (.int .i64 z) = ints (l.set k z) := by
 simp [ints, List.map_set]
theorem ints_size (l : List Int) : (ints l).size = l.length := by simp [ints]
theorem ints_app (l : List Int) (rs : Array Value) (j : Nat) (h : j < l.length) : (ints l ++ rs)[j]? = some (.int .i64 (l.getD j 0)) := by
 rw [Array.getElem?_append_left (by rw [ints_size]; exact h), ints_at l j h]
theorem ints_setA (l : List Int) (rs : Array Value) (k : Nat) (z : Int) (h : k < l.length) : (ints l ++ rs).setIfInBounds k (.int .i64 z) = ints (l.set k z) ++ rs := by
 rw [Array.setIfInBounds_append_left (by rw [ints_size]; exact h), ints_set]
def MovRow (w w' : World) (v : Value) (xs : List Int) : Prop := ∃ ad cap, v = .slice ad xs.length cap ∧ (xs = [] ∨ ∃ g t rs, ad = some ⟨g, 0, none⟩ ∧ w.heap.size ≤ g ∧ Blk w' g (ints xs ++ rs) t)
theorem movRow_nil {w w' : World} (ad : Option Addr) (cap : Nat) : MovRow w w' (.slice ad 0 cap) [] := ⟨ad, cap, rfl, .inl rfl⟩
theorem MovRow.below {w w' w'' : World} {v : Value} {xs : List Int} (h : MovRow w w' v xs) (hb : Below w'.heap.size w' w'') : MovRow w w'' v xs := by
 obtain ⟨ad, cap, rfl, h | ⟨g, t, zs, rfl, hg, hB⟩⟩ := h
 · exact ⟨ad, cap, rfl, .inl h⟩
 · exact ⟨_, cap, rfl, .inr ⟨g, t, zs, rfl, hg, hB.below hb hB.lt⟩⟩
def IntRow (w : World) (v : Value) (xs : List Int) : Prop := ∃ ad cap, v = .slice ad xs.length cap ∧ ∀ j, j < xs.length → ∃ g, ad = some ⟨g, 0, none⟩ ∧ g < w.heap.size ∧ w.cell? ⟨g, j, none⟩ = some (.int .i64 (xs.getD j 0))
theorem MovRow.row {w w' : World} {v : Value} {xs : List Int} (h : MovRow w w' v xs) : IntRow w' v xs := by
 obtain ⟨ad, cap, rfl, h | ⟨g, t, zs, rfl, _, hb⟩⟩ := h
 · subst h
   exact ⟨ad, cap, rfl, fun j hj => by simp at hj⟩
 · exact ⟨_, cap, rfl, fun j hj => ⟨g, rfl, hb.lt, hb.cell j (ints_app xs zs j hj)⟩⟩
theorem IntRow.below {w w' : World} {v : Value} {xs : List Int} (h : IntRow w v xs) (hb : Below w.heap.size w w') : IntRow w' v xs := by
 obtain ⟨ad, cap, rfl, h⟩ := h
 exact ⟨ad, cap, rfl, fun j hj => by
  obtain ⟨g, e, hg, hc⟩ := h j hj
  exact ⟨g, e, Nat.lt_of_lt_of_le hg hb.size, (hb.cell (p := ⟨g, j, none⟩) hg).trans hc⟩⟩
set_option maxHeartbeats 1000000 in
theorem eqInts (v1 v2 : Value) (xs : List Int) (w : World) (hx : xs.length ≤ 2000000) (h1 : IntRow w v1 xs) (h2 : IntRow w v2 xs) :
    CR 30 #[v1, v2] w (.bool true) := by
  obtain ⟨a1, c1, rfl, H1⟩ := h1
  obtain ⟨a2, c2, rfl, H2⟩ := h2
  have K1 : Hid _ := H1
  have K2 : Hid _ := H2
  clear H1 H2
  go_enter Tryz.func30, Tryz.ntmps30
  go_wp2
  go_loopw [5] (fun i wr => ∃ k : Nat, k ≤ xs.length ∧ i = .int .i64 (k : Int) ∧ ∃ m, wr = w.drewN m) (fun i _ => xs.length - (intOf i).toNat)
  case atStart => exact ⟨0, Nat.zero_le _, rfl, 0, rfl⟩
  case round =>
   obtain ⟨k, hk, rfl, m, rfl⟩ := hrel
   by_cases hlt : k < xs.length
   · obtain ⟨g1, rfl, _, e1⟩ := K1.out k hlt
     obtain ⟨g2, rfl, _, e2⟩ := K2.out k hlt
     generalize xs.getD k 0 = x at e1 e2
     go_wp2
     go_quiet (fail)
     go_wp2
     exact ⟨⟨k + 1, by omega, by go_num, _, rfl⟩, by simp [intOf]; omega⟩
   · go_wp2
     go_ret
     exact ⟨rfl, Below_drewN (Below.refl _ _) m⟩
def marks (k0 n : Nat) : List Int := (List.range n).map fun j => ((k0 + j : Nat) : Int)
theorem marks_len (k0 n : Nat) : (marks k0 n).length = n := by simp [marks]
theorem marks_at (k0 n j : Nat) (h : j < n) : (marks k0 n).getD j 0 = ((k0 + j : Nat) : Int) := by simp [marks, List.getD, h]
def marked (xs : List Int) (k0 k : Nat) : List Int := marks k0 k ++ xs.drop k
theorem marked_len (xs : List Int) (k0 k : Nat) (h : k ≤ xs.length) : (marked xs k0 k).length = xs.length := by simp [marked, marks_len]; omega
theorem marked_all (xs : List Int) (k0 : Nat) : marked xs k0 xs.length = marks k0 xs.length := by simp [marked]
theorem marked_set (xs : List Int) (k0 k : Nat) (h : k < xs.length) : (marked xs k0 k).set k ((k0 + k : Nat) : Int) = marked xs k0 (k + 1) := by
 unfold marked marks
 rw [List.set_append_right _ _ (by simp), List.length_map, List.length_range, Nat.sub_self, List.range_succ, List.map_append, List.drop_eq_getElem_cons h, List.set_cons_zero, List.append_assoc]
 rfl
set_option maxHeartbeats 1000000 in
theorem markInts (g cap k0 : Nat) (xs : List Int) (zs : Array Value) (t : TypeId) (w W : World) (hn : xs.length ≤ 2000000) (hk1 : k0 ≤ 2000000) (hg : W.heap.size ≤ g) (hW : Below W.heap.size W w) (ho : Blk w g (ints xs ++ zs) t) :
    Calls Tryz.prog 31 #[.slice (some ⟨g, 0, none⟩) xs.length cap, .int .i64 (k0 : Int)] w fun e w' => e = .returned (.int .i64 ((k0 + xs.length : Nat) : Int)) ∧ w.grownBy w' (some g) ∧ Below W.heap.size W w' ∧ Blk w' g (ints (marks k0 xs.length) ++ zs) t := by
  have HO := hideP ho
  have HW := hideP hW
  clear ho hW
  go_enter Tryz.func31, Tryz.ntmps31
  go_wp2
  go_loopw [1, 5] (fun u i wr => ∃ k : Nat, k ≤ xs.length ∧ i = .int .i64 (k : Int) ∧ u = .int .i64 ((k0 + k : Nat) : Int) ∧ w.grownBy wr (some g) ∧ Below W.heap.size W wr ∧ Blk wr g (ints (marked xs k0 k) ++ zs) t) (fun _ i _ => xs.length - (intOf i).toNat)
  case atStart => exact ⟨0, Nat.zero_le _, rfl, rfl, ⟨rfl, rfl, rfl, Nat.le_refl _, fun _ _ _ => rfl⟩, HW.out, by simpa [marked, marks] using HO.out⟩
  case round =>
   obtain ⟨k, hk, rfl, rfl, hG, hB, hM⟩ := hrel
   have HG := hideP hG
   have HB := hideP hB
   have HM := hideP hM
   clear hG hM hB
   by_cases hlt : k < xs.length
   · have c0 := HM.out.cell k (ints_app (marked xs k0 k) zs k (by rw [marked_len _ _ _ hk]; exact hlt))
     have hlm : k < (marked xs k0 k).length := by rw [marked_len _ _ _ hk]; exact hlt
     have f0 := HM.out.thaw k
     have HS := hideP (marked_set xs k0 k hlt)
     have HL := hideP hlm
     clear hlm
     generalize (marked xs k0 k).getD k 0 = z at *
     go_wp2
     refine ⟨⟨k + 1, by omega, by go_num, by go_num, ?_, below_store HB.out _ hg, ?_⟩, by simp [intOf]; omega⟩
     · exact ⟨HG.out.os, HG.out.tape, HG.out.output, by simpa [World.setCell] using HG.out.size, fun j hj hr => (Below.heap_setCell wr _ _ j (fun e => hr (by rw [e]))).trans (HG.out.block j hj hr)⟩
     · have h := HM.out.set k (.int .i64 ((k0 + k : Nat) : Int))
       rw [ints_setA _ _ _ _ HL.out, HS.out] at h
       first | exact h | simpa using h
   · have hkn : k = xs.length := by omega
     subst hkn
     go_wp2
     go_ret
     exact ⟨rfl, HG.out, HB.out, by rw [← marked_all]; exact HM.out⟩
set_option maxHeartbeats 1000000 in
theorem markNone (a : Option Addr) (cap : Nat) (k0 : Nat) (w : World) : Calls Tryz.prog 31 #[.slice a 0 cap, .int .i64 (k0 : Int)] w fun e w' => e = .returned (.int .i64 (k0 : Int)) ∧ w' = w := by
 go_enter Tryz.func31, Tryz.ntmps31
 go_wp2
 go_loopw [1, 5] (fun u i wr => i = .int .i64 0 ∧ u = .int .i64 (k0 : Int) ∧ wr = w) (fun _ _ _ => 0)
 case atStart => exact ⟨rfl, rfl, rfl⟩
 case round =>
  obtain ⟨rfl, rfl, rfl⟩ := hrel
  go_wp2
  go_ret
  exact ⟨rfl, rfl⟩
set_option maxHeartbeats 1000000 in
theorem heldInts (v : Value) (k0 n : Nat) (w : World) (hn : n ≤ 2000000) (hk1 : k0 ≤ 2000000) (h1 : IntRow w v (marks k0 n)) :
    CR 32 #[v, .int .i64 (k0 : Int)] w (.int .i64 ((k0 + n : Nat) : Int)) := by
  obtain ⟨a1, c1, rfl, H1⟩ := h1
  rw [marks_len] at *
  have K1 : Hid _ := H1
  clear H1
  go_enter Tryz.func32, Tryz.ntmps32
  go_wp2
  go_loopw [1, 5] (fun u i wr => ∃ k : Nat, k ≤ n ∧ i = .int .i64 (k : Int) ∧ u = .int .i64 ((k0 + k : Nat) : Int) ∧ ∃ m, wr = w.drewN m) (fun _ i _ => n - (intOf i).toNat)
  case atStart => exact ⟨0, Nat.zero_le _, rfl, rfl, 0, rfl⟩
  case round =>
   obtain ⟨k, hk, rfl, rfl, m, rfl⟩ := hrel
   by_cases hlt : k < n
   · obtain ⟨g1, rfl, _, e1⟩ := K1.out k hlt
     rw [marks_at k0 n k hlt] at e1
     go_wp2
     exact ⟨⟨k + 1, by omega, by go_num, by go_num, _, rfl⟩, by simp [intOf]; omega⟩
   · have hkn : k = n := by omega
     subst hkn
     go_wp2
     go_ret
     exact ⟨rfl, Below_drewN (Below.refl _ _) m⟩
theorem markRow (W w : World) (v : Value) (xs : List Int) (hn : xs.length ≤ 2000000) (h : MovRow W w v xs) (hW : Below W.heap.size W w) :
    Calls Tryz.prog 31 #[v, .int .i64 1] w fun e w' => e = .returned (.int .i64 ((1 + xs.length : Nat) : Int)) ∧ Below W.heap.size W w' ∧ IntRow w' v (marks 1 xs.length) := by
  obtain ⟨ad, cap, rfl, h | ⟨g, t, zs, rfl, hg, hB⟩⟩ := h
  · subst h
    exact (markNone ad cap 1 w).mono fun e w' ⟨he, hw⟩ => ⟨he, by rw [hw]; exact hW, ⟨ad, cap, rfl, fun j hj => by simp [marks] at hj⟩⟩
  · refine (markInts g cap 1 xs zs t w W (by omega) (by omega) hg hW hB).mono ?_
    rintro e w' ⟨he, _, hb, hk⟩
    exact ⟨he, hb, ⟨_, cap, by rw [marks_len], fun j hj => ⟨g, rfl, hk.lt, hk.cell j (ints_app _ zs j hj)⟩⟩⟩
theorem own_ints {w W : World} {v : Value} {xs : List Int} {e : TypeId} (h : W.ownsRow w.heap.size e 1 v xs.length (xs.map (Value.int .i64))) : MovRow w W v xs := by
 rcases h.2 with ⟨hv, h0⟩ | ⟨g, cap, cur, hv, hb, hh, hcap, _, hsz, htake⟩
 · subst hv
   exact ⟨none, 0, by rw [h0], .inl (List.length_eq_zero_iff.1 h0)⟩
 · subst hv
   refine ⟨_, cap, rfl, .inr ⟨g, e, (cur.toList.drop xs.length).toArray, rfl, hb, ?_⟩⟩
   have e1 : cur = ints xs ++ (cur.toList.drop xs.length).toArray := by
    apply Array.toList_inj.1
    rw [Array.toList_append]
    show cur.toList = (xs.map (Value.int .i64)) ++ cur.toList.drop xs.length
    rw [← htake]
    simp
   unfold Blk
   rw [← e1]
   exact hh
theorem info_int : (Tryz.prog.info? 3).map (fun i => (i.zero, i.size, i.bytes)) = some (some (.int .i64 0), 1, 8) := by kernel_rfl
end Go.Proofs.YtdmlhiailjnhcaaGreatDoor.ctr
namespace Go.Proofs.YtdmlhiailjnhcaaGreatDoor.ctr
open Go.RowKit
theorem ibase {w : World} {base e size : Nat} {v : Value} {n : Nat} {xs : List Value} (h : w.ownsRow base e size v n xs) : ∀ k, v.ownBlock = some k → base ≤ k := by
 intro k hk
 rcases h.2 with ⟨rfl, _⟩ | ⟨g, cap, cur, rfl, hb, _⟩
 · cases hk
 · have : k = g := by simpa [Value.ownBlock] using hk.symm
   omega
theorem inew (W : World) (o : Obj) : (W.alloc o).heap.size = W.heap.size + 1 := by simp [World.alloc, -World.alloc_eq]
theorem iown_empty (w : World) (e : TypeId) : (w.alloc (.cells #[] e)).ownsRow w.heap.size e 1 (.slice (some ⟨w.heap.size, 0, none⟩) 0 0) 0 [] :=
 ⟨rfl, .inr ⟨w.heap.size, 0, #[], rfl, Nat.le_refl _, by simp [World.alloc, -World.alloc_eq], Nat.le_refl _, Nat.zero_le _, rfl, rfl⟩⟩
theorem iown_later {w w' : World} {base e size : Nat} {v : Value} {n : Nat} {xs : List Value} (h : w.ownsRow base e size v n xs) (hb : Below w.heap.size w w') : w'.ownsRow base e size v n xs :=
 h.kept (row := none) ⟨hb.os, hb.tape, hb.output, hb.size, fun k hk _ => hb.block k hk⟩ (Classical.em _)
structure ISt (w : World) (o : Value) (xs : List Int) (W : World) : Prop where
 row : W.ownsRow w.heap.size 3 1 o xs.length (xs.map (Value.int .i64))
 below : Below w.heap.size w W
theorem ISt.later {w : World} {o : Value} {xs : List Int} {W W' : World} (h : ISt w o xs W) (hb : Below W.heap.size W W') : ISt w o xs W' := ⟨iown_later h.row hb, h.below.trans (hb.mono h.below.size)⟩
theorem ISt.app {w : World} {o o' : Value} {xs : List Int} {W W' : World} {ob : Obj} (h : ISt w o xs W) (z : Int) (hr : W'.ownsRow w.heap.size 3 1 o' (xs.length + 1) (xs.map (Value.int .i64) ++ [.int .i64 z])) (hg : (W.alloc ob).grownBy W' o.ownBlock) : ISt w o' (xs ++ [z]) W' := by
 refine ⟨?_, (h.below.alloc h.below.size ob).grown hg (by have := h.below.size; rw [inew]; omega) (ibase h.row)⟩
 rw [List.length_append, List.map_append]
 exact hr
theorem ISt.nil (w : World) : ISt w (.slice none 0 0) [] w := ⟨World.ownsRow_nil _ _ _ _, Below.refl _ _⟩
theorem own_mono1 {w : World} {b b' e size : Nat} {v : Value} {n : Nat} {xs : List Value} (h : w.ownsRow b e size v n xs) (hb : b' ≤ b) : w.ownsRow b' e size v n xs := by
 obtain ⟨h1, h | ⟨g, cap, cur, hv, hg, hr⟩⟩ := h
 · exact ⟨h1, .inl h⟩
 · exact ⟨h1, .inr ⟨g, cap, cur, hv, Nat.le_trans hb hg, hr⟩⟩
theorem ISt.done {w w0 W : World} {o : Value} {xs : List Int} (h : ISt w o xs W) (hb : Below w0.heap.size w0 w) : MovRow w0 W o xs ∧ Below w0.heap.size w0 W :=
 ⟨own_ints (e := 3) (own_mono1 h.row hb.size), hb.trans (h.below.mono hb.size)⟩
end Go.Proofs.YtdmlhiailjnhcaaGreatDoor.ctr
namespace Go.Proofs.YtdmlhiailjnhcaaGreatDoor.ctr
open Go.RowKit
theorem wpList_store_row {P : Program} (w : World) {ops : Array Oper} {rest : List Oper} {o : Oper} {a : Act} {Q : Exit → Act → World → Prop}
    (hg : o.guard = none) (t : TypeId) (p v : Operand) (hop : o.op = .store t p v) (g : Nat) (old cs : Array Value) (hp : a.eval p = .pointer (some ⟨g, 0, none⟩)) (hv : a.eval v = .agg cs) (hb : Blk w g old t)
    (hi : (P.info? t).map (·.size) = some cs.size) (ho : old.size = cs.size) (h1 : cs.all (·.oneCell') = true)
    (h : wpList P ops Q rest (a.put o.dst undef) (w.setRow g cs)) : wpList P ops Q (o :: rest) a w := by
  have hrun := run_storeVar_row (P := P) w g t t old cs hb hi ho h1
  refine wpList_plain hg fun K hK' => ?_
  unfold Oper.wp
  simp [execOp, hop, hp, hv, Instr.storeAt, Instr.sureAddr, hrun, Result.andThen]
  exact hK' _ _ h
theorem Blk.setRow {w : World} {g : Nat} {old : Array Value} {t : TypeId} (h : Blk w g old t) (cs : Array Value) : Blk (w.setRow g cs) g cs t := setRow_heap w g old cs t (0, 0) h
theorem below_setRow {V W : World} (h : Below V.heap.size V W) {g : Nat} (cs : Array Value) (hb : V.heap.size ≤ g) : Below V.heap.size V (W.setRow g cs) :=
 ⟨h.os, h.tape, h.output, by rw [setRow_size]; exact h.size, fun k hk => by rw [setRow_other W g k cs (by omega)]; exact h.block k hk⟩
end Go.Proofs.YtdmlhiailjnhcaaGreatDoor.ctr
namespace Go.Proofs.YtdmlhiailjnhcaaGreatDoor.ctr
open Go.RowKit
section
variable {P : Program} {ops : Array Oper} {Q : Exit → Act → World → Prop}
theorem held_take {md : Region.Mode} {S : World → Prop} {i : Nat} {d : Tmp} {oi : Oper} {v : Value} {fuel : Nat} {listed : Array Bool} {a : Act} {w : World} (hi : ops[i]? = some oi) (hd : oi.dst = some d) (hs : Region.noSelect ops = true) (hf : Region.free md ops listed i = true) (hr : (Region.ready md ops listed).contains i = true) (hQ : ∀ c a w, Q (.panic c) (a.put (some d) v) w → Q (.panic c) a w) (hw : Region.wanted oi (yielded ops a.tmps) = true) (hy : ∀ w, S w → (execOp a.eval oi).run P w = .ok (.value v) w) (hS : S w) (h : wpAnyH P md ops Q S fuel (listed.setIfInBounds i true) (a.put (some d) v) w) : wpAnyH P md ops Q S (fuel + 1) listed a w :=
 wpAnyH_take hi hs hf hr (fun c a' w' h' => by rw [hd] at h'; exact hQ c a' w' h') (Or.inl ⟨hw, hy⟩) hS (by rw [hd]; exact h)
theorem held_one {md : Region.Mode} {S : World → Prop} {f i : Nat} {L : Array Bool} {a : Act} {w : World} (hr : Region.ready md ops L = [i]) (h : wpOp P ops Q i (fun a' w' => S w' ∧ wpAnyH P md ops Q S f (L.setIfInBounds i true) a' w') a w) : wpAnyH P md ops Q S (f + 1) L a w :=
by
 refine ⟨fun q => ?_, fun j hj => ?_⟩
 · rw [hr] at q
   cases q
 · rw [hr] at hj
   obtain rfl := List.mem_singleton.1 hj
   exact h
end
theorem op_skip {P : Program} {ops : Array Oper} {Q : Exit → Act → World → Prop} {i : Nat} {o : Oper} {K : Act → World → Prop} {a : Act} {w w' : World} (hi : ops[i]? = some o) (hd : o.dst = none) (hw : Region.wanted o (yielded ops a.tmps) = true) (hx : (execOp a.eval o).run P w = .ok .skip w') (h : K a w') : wpOp P ops Q i K a w := by
 unfold wpOp
 simp only [hi, hw, if_true]
 left
 unfold Oper.wp
 rw [hx, Oper.upon_skip, hd]
 exact h
end Go.Proofs.YtdmlhiailjnhcaaGreatDoor.ctr
namespace Go.Proofs.YtdmlhiailjnhcaaGreatDoor.ctr
open Go.RowKit
structure Cal where
 i : Nat
 d : Tmp
 v : Value
structure Mak where
 i : Nat
 d : Tmp
 z : Array Value
 t : TypeId
structure Agree (S : List Tmp) (a a' : Act) : Prop where
 defers : a'.defers = a.defers
 size : a'.tmps.size = a.tmps.size
 tmp : ∀ j, j ∉ S → a'.tmps[j]? = a.tmps[j]?
theorem Agree.put {S : List Tmp} {a a' : Act} (h : Agree S a a') {d : Tmp} (hd : d ∈ S) (v : Value) : Agree S a (a'.put (some d) v) :=
 ⟨h.defers, by show (a'.tmps.setIfInBounds d v).size = _; rw [Array.size_setIfInBounds, h.size], fun j hj => by
  show (a'.tmps.setIfInBounds d v)[j]? = _
  rw [Array.getElem?_setIfInBounds_ne (fun e => hj (by rw [← e]; exact hd)), h.tmp j hj]⟩
theorem Agree.eval {S : List Tmp} {a a' : Act} (h : Agree S a a') {j : Tmp} (hj : j ∉ S) : a'.eval (.tmp j) = a.eval (.tmp j) := by
 show a'.tmps.getD j undef = a.tmps.getD j undef
 rw [Array.getD_eq_getD_getElem?, Array.getD_eq_getD_getElem?, h.tmp j hj]
section
variable {P : Program} {ops : Array Oper} {Q : Exit → Act → World → Prop} {md : Region.Mode} {S : World → Prop}
end
end Go.Proofs.YtdmlhiailjnhcaaGreatDoor.ctr
namespace Go.Proofs.YtdmlhiailjnhcaaGreatDoor.ctr
open Go.RowKit
def RowI (W : World) (g : Nat) (xs : List Int) : Prop := ∃ cs t, Blk W g cs t ∧ ∀ j, j < xs.length → cs[j]? = some (.int .i64 (xs.getD j 0))
theorem RowI.cell {W : World} {g : Nat} {xs : List Int} (h : RowI W g xs) {j : Nat} (hj : j < xs.length) : W.cell? ⟨g, j, none⟩ = some (.int .i64 (xs.getD j 0)) := by
 obtain ⟨cs, t, hb, hc⟩ := h
 exact hb.cell j (hc j hj)
theorem RowI.thaw {W : World} {g : Nat} {xs : List Int} (h : RowI W g xs) (j : Nat) : W.frozen? ⟨g, j, none⟩ = false := by
 obtain ⟨cs, t, hb, hc⟩ := h
 exact hb.thaw j
theorem RowI.lt {W : World} {g : Nat} {xs : List Int} (h : RowI W g xs) : g < W.heap.size := by
 obtain ⟨cs, t, hb, hc⟩ := h
 exact hb.lt
theorem RowI.below {W W' : World} {g : Nat} {xs : List Int} (h : RowI W g xs) (hb : Below W.heap.size W W') : RowI W' g xs := by
 obtain ⟨cs, t, hk, hc⟩ := h
 exact ⟨cs, t, hk.below hb hk.lt, hc⟩
theorem RowI.set {W : World} {g : Nat} {xs : List Int} (h : RowI W g xs) {i : Nat} (hi : i < xs.length) (u : Int) : RowI (W.setCell ⟨g, i, none⟩ (.int .i64 u)) g (xs.set i u) := by
 obtain ⟨cs, t, hb, hc⟩ := h
 refine ⟨_, t, hb.set i _, fun j hj => ?_⟩
 rw [List.length_set] at hj
 have hs : i < cs.size := by
  by_cases k : i < cs.size
  · exact k
  · have := hc i hi
    rw [Array.getElem?_eq_none (by omega)] at this
    cases this
 by_cases e : i = j
 · subst e
   rw [Array.getElem?_setIfInBounds_self_of_lt hs]
   simp [List.getD, hi]
 · rw [Array.getElem?_setIfInBounds_ne e, hc j hj]
   simp [List.getD, List.getElem?_set_ne e]
theorem RowI.take {W : World} {g : Nat} {xs : List Int} (h : RowI W g xs) (k : Nat) : RowI W g (xs.take k) := by
 obtain ⟨cs, t, hb, hc⟩ := h
 refine ⟨cs, t, hb, fun j hj => ?_⟩
 rw [List.length_take] at hj
 rw [hc j (by omega)]
 simp [List.getD, show j < k by omega]
theorem blk_setCells {g : Nat} {t : TypeId} : ∀ (vs : List Value) (o : Nat) (w : World) (cs : Array Value), Blk w g cs t → ∃ cs', Blk (w.setCells g o vs) g cs' t ∧ ∀ j, j < o → cs'[j]? = cs[j]?
  | [], o, w, cs, h => ⟨cs, h, fun _ _ => rfl⟩
  | v :: vs, o, w, cs, h => by
   obtain ⟨cs', h1, h2⟩ := blk_setCells vs (o + 1) (w.setCell ⟨g, o, none⟩ v) _ (h.set o v)
   exact ⟨cs', h1, fun j hj => by rw [h2 j (by omega), Array.getElem?_setIfInBounds_ne (by omega)]⟩
theorem RowI.clear {W : World} {g : Nat} {xs : List Int} (h : RowI W g xs) {k : Nat} (vs : List Value) : RowI (W.setCells g k vs) g (xs.take k) := by
 obtain ⟨cs, t, hb, hc⟩ := h
 obtain ⟨cs', h1, h2⟩ := blk_setCells vs k W cs hb
 refine ⟨cs', t, h1, fun j hj => ?_⟩
 rw [List.length_take] at hj
 rw [h2 j (by omega), hc j (by omega)]
 simp [List.getD, show j < k by omega]
theorem RowI.holds {W : World} {g : Nat} {xs : List Int} (h : RowI W g xs) : Sort.Holds (Value.int .i64) W g 0 xs.toArray := fun j hj => by
 have hj' : j < xs.length := by simpa using hj
 rw [Nat.zero_add]
 refine ⟨?_, h.thaw j⟩
 rw [h.cell hj']
 simp [List.getD, hj', getElem!_pos]
theorem blk_map {w : World} {g : Nat} {cs : Array Value} {t : TypeId} (h : Blk w g cs t) (f : Array Value → Array Value) : Blk (Sort.mapBlock w g f) g (f cs) t := by
 unfold Blk at h ⊢
 simp [Sort.mapBlock, Array.getElem?_modify, h, Sort.onCells]
theorem below_map {B : Nat} {w W : World} {g : Nat} (h : Below B w W) (hg : B ≤ g) (f : Array Value → Array Value) : Below B w (Sort.mapBlock W g f) :=
 ⟨h.os, h.tape, h.output, by show _ ≤ (W.heap.modify g _).size; rw [Array.size_modify]; exact h.size, fun k hk => by
  show (W.heap.modify g _)[k]? = _
  rw [Array.getElem?_modify, if_neg (by omega)]
  exact h.block k hk⟩
theorem below_ahead {B : Nat} {w W : World} (h : Below B w W) (n : Nat) : Below B w (Sort.ahead W n) := ⟨h.os, h.tape, h.output, h.size, h.block⟩
theorem below_grow {B : Nat} {w W : World} (h : Below B w W) (hB : B ≤ W.heap.size) (os : Array Obj) : Below B w (Sort.grow W os) :=
 ⟨h.os, h.tape, h.output, Nat.le_trans h.size (by show _ ≤ (W.heap ++ os).size; rw [Array.size_append]; omega), fun k hk => by
  show (W.heap ++ os)[k]? = _
  rw [Array.getElem?_append_left (by omega)]
  exact h.block k hk⟩
theorem RowI.put {W : World} {g : Nat} {xs ys : List Int} (h : RowI W g xs) (hl : ys.length = xs.length) (n : Nat) : RowI (Sort.putRow (Value.int .i64) (Sort.ahead W n) g 0 ys.toArray) g ys := by
 have hh := Sort.cell?_putRow (Value.int .i64) (Sort.ahead W n) g 0 xs.toArray ys.toArray (Sort.holds_ahead _ _ n _ _ _ h.holds) (by simpa using hl)
 obtain ⟨cs, t, hb, _⟩ := h
 have hb' : Blk (Sort.ahead W n) g cs t := hb
 have hq := blk_map hb' (Sort.putCells (Value.int .i64) 0 ys.toArray)
 refine ⟨_, t, hq, fun j hj => ?_⟩
 have h1 := hh j (by simpa using hj)
 unfold Sort.putRow at h1
 unfold Blk at hq
 rw [Nat.zero_add] at h1
 unfold World.cell? at h1
 simp only [hq] at h1
 simpa [List.getD, hj, getElem!_pos] using h1
theorem RowI.grow {W : World} {g : Nat} {xs : List Int} (h : RowI W g xs) (os : Array Obj) : RowI (Sort.grow W os) g xs := h.below (below_grow (Below.refl _ _) (Nat.le_refl _) os)
theorem RowI.mov {w W : World} {g cap : Nat} {xs : List Int} (h : RowI W g xs) (hg : w.heap.size ≤ g) : MovRow w W (.slice (some ⟨g, 0, none⟩) xs.length cap) xs := by
 obtain ⟨cs, t, hb, hc⟩ := h
 refine ⟨_, cap, rfl, .inr ⟨g, t, (cs.toList.drop xs.length).toArray, rfl, hg, ?_⟩⟩
 have e : cs = ints xs ++ (cs.toList.drop xs.length).toArray := by
  have hs : xs.length ≤ cs.size := by
   by_cases k : xs.length ≤ cs.size
   · exact k
   · have := hc cs.size (by omega)
     rw [Array.getElem?_eq_none (Nat.le_refl _)] at this
     cases this
  apply Array.toList_inj.1
  rw [Array.toList_append]
  show cs.toList = (xs.map (Value.int .i64)) ++ cs.toList.drop xs.length
  have e1 : xs.map (Value.int .i64) = cs.toList.take xs.length := by
   apply List.ext_getElem?
   intro j
   by_cases hj : j < xs.length
   · have := hc j hj
     have h2 : cs.toList[j]? = some (.int .i64 (xs.getD j 0)) := (Array.getElem?_toList ..).trans this
     rw [List.getElem?_take, if_pos hj, h2]
     simp [List.getD, hj]
   · rw [List.getElem?_take, if_neg hj, List.getElem?_eq_none (by simp; omega)]
  rw [e1, List.take_append_drop]
 unfold Blk at hb ⊢
 rw [← e]
 exact hb
theorem own_rowI {w W : World} {v : Value} {xs : List Int} {e : TypeId} (h : W.ownsRow w.heap.size e 1 v xs.length (xs.map (Value.int .i64))) : (xs = [] ∧ v = .slice none 0 0) ∨ ∃ g cap, v = .slice (some ⟨g, 0, none⟩) xs.length cap ∧ xs.length ≤ cap ∧ w.heap.size ≤ g ∧ RowI W g xs := by
 rcases h.2 with ⟨hv, h0⟩ | ⟨g, cap, cur, hv, hb, hh, hcap, _, hsz, htake⟩
 · exact .inl ⟨List.length_eq_zero_iff.1 h0, by rw [hv]⟩
 · refine .inr ⟨g, cap, hv, hcap, hb, cur, e, hh, fun j hj => ?_⟩
   have e1 := congrArg (fun l : List Value => l[j]?) htake
   simp only [List.getElem?_take, show j < xs.length * 1 by omega, if_true, List.getElem?_map, Array.getElem?_toList] at e1
   rw [e1]
   simp [List.getD, hj]
structure Kpt (p : Int → Bool) (xs L : List Int) (i j : Nat) : Prop where
 len : L.length = xs.length
 lt : i < j
 le : j ≤ xs.length
 low : L.take i = (xs.take j).filter p
 high : L.drop j = xs.drop j
theorem Kpt.start {p : Int → Bool} {xs : List Int} {k : Nat} (hk : k < xs.length) (h0 : p (xs.getD k 0) = false) (h : ∀ j, j < k → p (xs.getD j 0) = true) : Kpt p xs xs k (k + 1) where
 len := rfl
 lt := Nat.lt_succ_self _
 le := hk
 low := by
  rw [List.take_succ_eq_append_getElem hk, List.filter_append]
  have e : xs[k] = xs.getD k 0 := by simp [List.getD, hk]
  rw [e, List.filter_cons_of_neg (by rw [h0]; simp), List.filter_nil, List.append_nil]
  refine (List.filter_eq_self.2 (fun a ha => ?_)).symm
  obtain ⟨j, hj, rfl⟩ := List.getElem_of_mem ha
  rw [List.length_take] at hj
  have := h j (by omega)
  rw [List.getElem_take]
  simpa [List.getD, show j < xs.length by omega] using this
 high := rfl
theorem Kpt.at {p : Int → Bool} {xs L : List Int} {i j : Nat} (h : Kpt p xs L i j) : L.getD j 0 = xs.getD j 0 := by
 have e := congrArg (fun l : List Int => l.getD 0 0) h.high
 simpa [List.getD] using e
theorem Kpt.keep {p : Int → Bool} {xs L : List Int} {i j : Nat} (h : Kpt p xs L i j) (hj : j < xs.length) (hp : p (xs.getD j 0) = true) : Kpt p xs (L.set i (xs.getD j 0)) (i + 1) (j + 1) where
 len := by rw [List.length_set, h.len]
 lt := by have := h.lt; omega
 le := hj
 low := by
  have hi : i < L.length := by have := h.lt; have := h.len; omega
  have e : xs[j] = xs.getD j 0 := by simp [List.getD, hj]
  rw [List.take_succ_eq_append_getElem hj, List.filter_append, ← h.low, e, List.filter_cons_of_pos hp, List.filter_nil]
  rw [List.take_succ_eq_append_getElem (by rw [List.length_set]; exact hi), List.getElem_set_self, List.take_set_of_le (Nat.le_refl _)]
 high := by
  rw [List.drop_set_of_lt (by have := h.lt; omega)]
  have e := congrArg (List.drop 1) h.high
  simpa [List.drop_drop] using e
theorem Kpt.skip {p : Int → Bool} {xs L : List Int} {i j : Nat} (h : Kpt p xs L i j) (hj : j < xs.length) (hp : p (xs.getD j 0) = false) : Kpt p xs L i (j + 1) where
 len := h.len
 lt := by have := h.lt; omega
 le := hj
 low := by
  have e : xs[j] = xs.getD j 0 := by simp [List.getD, hj]
  rw [List.take_succ_eq_append_getElem hj, List.filter_append, ← h.low, e, List.filter_cons_of_neg (by rw [hp]; simp), List.filter_nil, List.append_nil]
 high := by
  have e := congrArg (List.drop 1) h.high
  simpa [List.drop_drop] using e
theorem Kpt.done {p : Int → Bool} {xs L : List Int} {i : Nat} (h : Kpt p xs L i xs.length) : L.take i = xs.filter p ∧ i = (xs.filter p).length := by
 have e : L.take i = xs.filter p := by rw [h.low, List.take_length]
 refine ⟨e, ?_⟩
 rw [← e, List.length_take]
 have := h.lt
 have := h.len
 omega
end Go.Proofs.YtdmlhiailjnhcaaGreatDoor.ctr
