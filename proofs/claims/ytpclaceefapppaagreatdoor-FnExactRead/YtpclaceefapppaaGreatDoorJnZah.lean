/- errors.As at an error of the program's own type, held in an interface by value, and a variable of that type: t; and what else the law reaches. -/
import Derived.Test.YtpclaceefapppaaGreatDoorJnZaa
import Derived.WalkKit
import Derived.LaidEql
import Derived.Stop.Asserts
import Derived.RowKitTokens
import Derived.Laws.AppendOwn
set_option maxRecDepth 100000
set_option maxHeartbeats 4000000
namespace Go.Proofs.YtpclaceefapppaaGreatDoor.ctr
open Go.RowKit Go.Extern.Stop Go.Stop Go.Extern
theorem as_nil (t : Value) (w : World) : CS 179 #[.nilIface, t] w (.bool false) := by
 go_enter Tryz.func179, Tryz.ntmps179
 go_wp2
 go_ret
 exact ⟨rfl, rfl⟩
theorem a_valueOfP (t : Addr) (w : World) : (ReflectliteValue.unpack (.iface 206 (.pointer (some t)))).run Tryz.prog w
    = .ok (.agg #[.pointer (some ⟨10, 206, none⟩), .pointer (some ⟨w.heap.size, 0, none⟩), .int .u64 150]) (w.alloc (.cells #[.pointer (some t)] 206)) := by kernel_rfl
theorem a_typeP (a : Addr) (w : World) : (ReflectliteValue.methodAny (ReflectliteValue.valueError "reflectlite.Value.Type" 0) (fun t _ _ _ => ReflectliteType.toType t) #[.agg #[.pointer (some ⟨10, 206, none⟩), .pointer (some a), .int .u64 150]]).run Tryz.prog w
    = .ok (.iface 270 (.agg #[.pointer (some ⟨10, 206, none⟩)])) w := by kernel_rfl
theorem a_mKind (h : Value) (w : World) : (Go.method 489 270 (.agg #[h]) "Kind").run Tryz.prog w = .ok (364, h) w := by kernel_rfl
theorem a_kindP (w : World) : ((ReflectliteType.abiMethod fun t => (fun a : Nat => Value.int IntKind.u8 (a : Int)) <$> Rtype.kind t) #[.pointer (some ⟨10, 206, none⟩)]).run Tryz.prog w = .ok (.int .u8 22) w := by kernel_rfl
theorem a_kindS (w : World) : ((ReflectliteType.abiMethod fun t => (fun a : Nat => Value.int IntKind.u8 (a : Int)) <$> Rtype.kind t) #[.pointer (some ⟨10, 203, none⟩)]).run Tryz.prog w = .ok (.int .u8 25) w := by kernel_rfl
theorem a_mElem (h : Value) (w : World) : (Go.method 489 270 (.agg #[h]) "Elem").run Tryz.prog w = .ok (391, .agg #[h]) w := by kernel_rfl
theorem a_mImpl (h : Value) (w : World) : (Go.method 489 270 (.agg #[h]) "Implements").run Tryz.prog w = .ok (392, .agg #[h]) w := by kernel_rfl
theorem a_mAssign (h : Value) (w : World) : (Go.method 489 270 (.agg #[h]) "AssignableTo").run Tryz.prog w = .ok (389, .agg #[h]) w := by kernel_rfl
theorem a_elemT (w : World) : (ReflectliteType.method ReflectliteType.elem #[.agg #[.pointer (some ⟨10, 206, none⟩)]]).run Tryz.prog w = .ok (.iface 270 (.agg #[.pointer (some ⟨10, 203, none⟩)])) w := by kernel_rfl
theorem a_implS (w : World) : (ReflectliteType.relation "Implements" ReflectliteType.implements_ #[.agg #[.pointer (some ⟨10, 203, none⟩)], .iface 270 (.agg #[.pointer (some ⟨10, 144, none⟩)])]).run Tryz.prog w = .ok (.bool true) w := by kernel_rfl
theorem a_typeOfS (v : Value) (w : World) : (ReflectliteType.typeOf #[.iface 203 v]).run Tryz.prog w = .ok (.iface 270 (.agg #[.pointer (some ⟨10, 203, none⟩)])) w := by kernel_rfl
theorem a_assignS (w : World) : (ReflectliteType.relation "AssignableTo" ReflectliteType.assignableTo #[.agg #[.pointer (some ⟨10, 203, none⟩)], .iface 270 (.agg #[.pointer (some ⟨10, 203, none⟩)])]).run Tryz.prog w = .ok (.bool true) w := by kernel_rfl
theorem a_valueOfS (a b : Int) (w : World) : (ReflectliteValue.unpack (.iface 203 (.agg #[.int .i64 a, .int .i64 b]))).run Tryz.prog w
    = .ok (.agg #[.pointer (some ⟨10, 203, none⟩), .pointer (some ⟨w.heap.size, 0, none⟩), .int .u64 153]) (w.alloc (.cells #[.int .i64 a, .int .i64 b] 203)) := by kernel_rfl
theorem a_rlm (z : Sem Value) (f : TypeId → Addr → Nat → Nat → Sem Value) (v : Value) :
    ReflectliteValue.method z f #[v] = (do match ← ReflectliteValue.parts v with | none => z | some (t, a, fl) => f t a fl (fl % 32)) := rfl
theorem a_partsP (a : Addr) (w : World) : (ReflectliteValue.parts (.agg #[.pointer (some ⟨10, 206, none⟩), .pointer (some a), .int .u64 150])).run Tryz.prog w = .ok (some (206, a, 150)) w := by kernel_rfl
theorem a_isNilP (a p : Addr) (W : World) (ha : W.cell? a = some (.pointer (some p))) :
    (ReflectliteValue.method (ReflectliteValue.valueError "reflectlite.Value.IsNil" 0) ReflectliteValue.isNil #[.agg #[.pointer (some ⟨10, 206, none⟩), .pointer (some a), .int .u64 150]]).run Tryz.prog W = .ok (.bool false) W := by
  rw [a_rlm]
  simp only [Sem.run_bind, a_partsP, Result.andThen]
  simp [ReflectliteValue.isNil, loadVar, isAgg, underlying, Tryz.underlying206, ha, Result.andThen]
theorem a_elemOf (w : World) : (Rtype.elem? 206).run Tryz.prog w = .ok (some 203) w := by kernel_rfl
theorem a_mkS (p : Addr) (w : World) : (ReflectliteValue.mk 203 p ReflectliteValue.flagAddr).run Tryz.prog w = .ok (.agg #[.pointer (some ⟨10, 203, none⟩), .pointer (some p), .int .u64 409]) w := by kernel_rfl
theorem a_elemV (a p : Addr) (W : World) (ha : W.cell? a = some (.pointer (some p))) :
    (ReflectliteValue.method (ReflectliteValue.valueError "reflectlite.Value.Elem" 0) ReflectliteValue.elem #[.agg #[.pointer (some ⟨10, 206, none⟩), .pointer (some a), .int .u64 150]]).run Tryz.prog W
      = .ok (.agg #[.pointer (some ⟨10, 203, none⟩), .pointer (some p), .int .u64 409]) W := by
  rw [a_rlm]
  simp only [Sem.run_bind, a_partsP, Result.andThen]
  simp [ReflectliteValue.elem, loadVar, isAgg, underlying, Tryz.underlying206, ha, Result.andThen, a_elemOf, a_mkS]
theorem a_rls (v x : Value) : ReflectliteValue.set #[v, x] = (do
 let (some (dst, a, fl), some (src, b, _)) := (← ReflectliteValue.parts v, ← ReflectliteValue.parts x)
   | unsupported (.noEntry "extern/(internal/reflectlite.Value).Set.zeroValue")
 if fl / ReflectliteValue.flagAddr % 2 == 0 then unsupported (.noEntry "extern/(internal/reflectlite.Value).Set.unaddressable")
 let val ← loadVar src b
 if ← Rtype.directlyAssignable dst src then storeVar dst a val
 else if ← Rtype.implements dst src then
  if (← Rtype.kind src) == 20 then
   match val with
   | .nilIface => unsupported (.noEntry "extern/reflectlite: a nil value of one interface type handed on as a value of another")
   | _ => storeVar dst a val
  else storeVar dst a (.iface src val)
 else panicString ("reflectlite.Set: value of type " ++ (← Rtype.spelt src) ++ " is not assignable to type " ++ (← Rtype.spelt dst))
 pure (.tuple #[])) := rfl
theorem a_partsA (a : Addr) (w : World) : (ReflectliteValue.parts (.agg #[.pointer (some ⟨10, 203, none⟩), .pointer (some a), .int .u64 409])).run Tryz.prog w = .ok (some (203, a, 409)) w := by kernel_rfl
theorem a_partsS (a : Addr) (w : World) : (ReflectliteValue.parts (.agg #[.pointer (some ⟨10, 203, none⟩), .pointer (some a), .int .u64 153])).run Tryz.prog w = .ok (some (203, a, 153)) w := by kernel_rfl
theorem a_direct (w : World) : (Rtype.directlyAssignable 203 203).run Tryz.prog w = .ok true w := by kernel_rfl
end Go.Proofs.YtpclaceefapppaaGreatDoor.ctr
namespace Go.Proofs.YtpclaceefapppaaGreatDoor.ctr
open Go.RowKit Go.Extern.Stop Go.Stop Go.Extern
theorem a_loadS (s : Nat) (a b : Int) (W : World) (h0 : W.cell? ⟨s, 0, none⟩ = some (.int .i64 a)) (h1 : W.cell? ⟨s, 1, none⟩ = some (.int .i64 b)) : (loadVar 203 ⟨s, 0, none⟩).run Tryz.prog W = .ok (.agg #[.int .i64 a, .int .i64 b]) W := by
 go_simp
theorem a_storeS (s : Nat) (a b : Int) (W : World) (u0 u1 : Value) (h0 : W.cell? ⟨s, 0, none⟩ = some u0) (h1 : W.cell? ⟨s, 1, none⟩ = some u1) (f0 : W.frozen? ⟨s, 0, none⟩ = false) (f1 : W.frozen? ⟨s, 1, none⟩ = false) : (storeVar 203 ⟨s, 0, none⟩ (.agg #[.int .i64 a, .int .i64 b])).run Tryz.prog W = .ok () ((W.setCell ⟨s, 0, none⟩ (.int .i64 a)).setCell ⟨s, 1, none⟩ (.int .i64 b)) := by
 go_simp
theorem a_set (t s : Nat) (a b : Int) (u0 u1 : Value) (W : World) (h0 : W.cell? ⟨s, 0, none⟩ = some (.int .i64 a)) (h1 : W.cell? ⟨s, 1, none⟩ = some (.int .i64 b)) (g0 : W.cell? ⟨t, 0, none⟩ = some u0) (g1 : W.cell? ⟨t, 1, none⟩ = some u1) (f0 : W.frozen? ⟨t, 0, none⟩ = false) (f1 : W.frozen? ⟨t, 1, none⟩ = false) :
    (ReflectliteValue.set #[.agg #[.pointer (some ⟨10, 203, none⟩), .pointer (some ⟨t, 0, none⟩), .int .u64 409], .agg #[.pointer (some ⟨10, 203, none⟩), .pointer (some ⟨s, 0, none⟩), .int .u64 153]]).run Tryz.prog W
      = .ok (.tuple #[]) ((W.setCell ⟨t, 0, none⟩ (.int .i64 a)).setCell ⟨t, 1, none⟩ (.int .i64 b)) := by
  rw [a_rls]
  simp only [Sem.run_bind, a_partsA, a_partsS, Result.andThen]
  simp [ReflectliteValue.flagAddr, a_loadS s a b W h0 h1, Result.andThen, a_direct, a_storeS t a b W u0 u1 g0 g1 f0 f1]
theorem as_hit (a b : Int) (t : Nat) (u0 u1 : Value) (w : World) (hg : w.cell? ⟨4, 0, none⟩ = some (.iface 270 (.agg #[.pointer (some ⟨10, 144, none⟩)]))) (ht : Blk w t #[u0, u1] 203) :
    Calls Tryz.prog 179 #[.iface 203 (.agg #[.int .i64 a, .int .i64 b]), .iface 206 (.pointer (some ⟨t, 0, none⟩))] w fun ev w' => ev = .returned (.bool true) ∧ w' = ((((((w.alloc (.cells #[.pointer (some ⟨t, 0, none⟩)] 206)).alloc (.cells #[.pointer (some ⟨10, 206, none⟩), .pointer (some ⟨w.heap.size, 0, none⟩), .int .u64 150] 259)).alloc (.cells #[.pointer (some ⟨10, 206, none⟩), .pointer (some ⟨w.heap.size, 0, none⟩), .int .u64 150] 259)).alloc (.cells #[.int .i64 a, .int .i64 b] 203)).setCell ⟨t, 0, none⟩ (.int .i64 a)).setCell ⟨t, 1, none⟩ (.int .i64 b)) := by
  have h6 := @run_callFunc_extern Tryz.prog 242 _ (fun args => ReflectliteValue.unpack (args.getD 0 (.tuple #[]))) Tryz.func242 (by kernel_rfl) (by kernel_rfl) (by kernel_rfl) (by kernel_rfl)
  have h7 := @run_callFunc_extern Tryz.prog 243 _ (ReflectliteValue.methodAny (ReflectliteValue.valueError "reflectlite.Value.Type" 0) (fun t _ _ _ => ReflectliteType.toType t)) Tryz.func243 (by kernel_rfl) (by kernel_rfl) (by kernel_rfl) (by kernel_rfl)
  have h8 := @run_callFunc_extern Tryz.prog 244 _ (ReflectliteValue.method (ReflectliteValue.valueError "reflectlite.Value.IsNil" 0) ReflectliteValue.isNil) Tryz.func244 (by kernel_rfl) (by kernel_rfl) (by kernel_rfl) (by kernel_rfl)
  have h27 := @run_callFunc_extern Tryz.prog 364 _ (ReflectliteType.abiMethod fun t => do pure (.int .u8 (← Rtype.kind t))) Tryz.func364 (by kernel_rfl) (by kernel_rfl) (by kernel_rfl) (by kernel_rfl)
  have h37 := @run_callFunc_extern Tryz.prog 391 _ (ReflectliteType.method ReflectliteType.elem) Tryz.func391 (by kernel_rfl) (by kernel_rfl) (by kernel_rfl) (by kernel_rfl)
  have h38 := @run_callFunc_extern Tryz.prog 392 _ (ReflectliteType.relation "Implements" ReflectliteType.implements_) Tryz.func392 (by kernel_rfl) (by kernel_rfl) (by kernel_rfl) (by kernel_rfl)
  have h10 := @run_callFunc_extern Tryz.prog 181 _ ReflectliteType.typeOf Tryz.func181 (by kernel_rfl) (by kernel_rfl) (by kernel_rfl) (by kernel_rfl)
  have h35 := @run_callFunc_extern Tryz.prog 389 _ (ReflectliteType.relation "AssignableTo" ReflectliteType.assignableTo) Tryz.func389 (by kernel_rfl) (by kernel_rfl) (by kernel_rfl) (by kernel_rfl)
  have h11 := @run_callFunc_extern Tryz.prog 286 _ (ReflectliteValue.method (ReflectliteValue.valueError "reflectlite.Value.Elem" 0) ReflectliteValue.elem) Tryz.func286 (by kernel_rfl) (by kernel_rfl) (by kernel_rfl) (by kernel_rfl)
  have h12 := @run_callFunc_extern Tryz.prog 287 _ ReflectliteValue.set Tryz.func287 (by kernel_rfl) (by kernel_rfl) (by kernel_rfl) (by kernel_rfl)
  have tO := a_typeOfS
  have mA := a_mAssign
  have aS := a_assignS
  have vS := a_valueOfS
  have f6 := a_valueOfP
  have f7 := a_typeP
  have mK := a_mKind
  have mE := a_mElem
  have mI := a_mImpl
  have kP := a_kindP
  have kS := a_kindS
  have eT := a_elemT
  have iS := a_implS
  have n8 := a_isNilP ⟨w.heap.size, 0, none⟩ ⟨t, 0, none⟩ ((w.alloc (.cells #[.pointer (some ⟨t, 0, none⟩)] 206)).alloc (.cells #[.pointer (some ⟨10, 206, none⟩), .pointer (some ⟨w.heap.size, 0, none⟩), .int .u64 150] 259)) (by simp)
  have hlt : 4 < w.heap.size := by
   rcases Nat.lt_or_ge 4 w.heap.size with h | h
   · exact h
   · simp [World.cell?, Array.getElem?_eq_none h] at hg
  have hg2 : ((w.alloc (.cells #[.pointer (some ⟨t, 0, none⟩)] 206)).alloc (.cells #[.pointer (some ⟨10, 206, none⟩), .pointer (some ⟨w.heap.size, 0, none⟩), .int .u64 150] 259)).cell? ⟨4, 0, none⟩ = some (.iface 270 (.agg #[.pointer (some ⟨10, 144, none⟩)])) := by
   rw [World.cell?_alloc_lt _ _ ⟨4, 0, none⟩ (by rw [World.size_alloc]; exact Nat.lt_succ_of_lt hlt), World.cell?_alloc_lt _ _ ⟨4, 0, none⟩ hlt]; exact hg
  have htl := ht.lt
  have el := a_elemV ⟨w.heap.size, 0, none⟩ ⟨t, 0, none⟩ (((w.alloc (.cells #[.pointer (some ⟨t, 0, none⟩)] 206)).alloc (.cells #[.pointer (some ⟨10, 206, none⟩), .pointer (some ⟨w.heap.size, 0, none⟩), .int .u64 150] 259)).alloc (.cells #[.pointer (some ⟨10, 206, none⟩), .pointer (some ⟨w.heap.size, 0, none⟩), .int .u64 150] 259)) (by rw [World.cell?_alloc_lt _ _ ⟨w.heap.size, 0, none⟩ (by simp; omega)]; simp)
  have HT := (((ht.alloc (.cells #[.pointer (some ⟨t, 0, none⟩)] 206)).alloc (.cells #[.pointer (some ⟨10, 206, none⟩), .pointer (some ⟨w.heap.size, 0, none⟩), .int .u64 150] 259)).alloc (.cells #[.pointer (some ⟨10, 206, none⟩), .pointer (some ⟨w.heap.size, 0, none⟩), .int .u64 150] 259)).alloc (.cells #[.int .i64 a, .int .i64 b] 203)
  have HN := Blk.new (((w.alloc (.cells #[.pointer (some ⟨t, 0, none⟩)] 206)).alloc (.cells #[.pointer (some ⟨10, 206, none⟩), .pointer (some ⟨w.heap.size, 0, none⟩), .int .u64 150] 259)).alloc (.cells #[.pointer (some ⟨10, 206, none⟩), .pointer (some ⟨w.heap.size, 0, none⟩), .int .u64 150] 259)) #[.int .i64 a, .int .i64 b] 203
  rw [World.size_alloc, World.size_alloc, World.size_alloc] at HN
  have st := a_set t (w.heap.size + 1 + 1 + 1) a b u0 u1 _ (HN.cell 0 rfl) (HN.cell 1 rfl) (HT.cell 0 rfl) (HT.cell 1 rfl) (HT.thaw 0) (HT.thaw 1)
  clear HT HN
  go_enter Tryz.func179, Tryz.ntmps179
  go_wp2
  refine wp_loop_rounds 1 ?_
  rw [rounds_succ]
  go_wp2
  go_ret
  exact ⟨rfl, rfl⟩
end Go.Proofs.YtpclaceefapppaaGreatDoor.ctr
namespace Go.Proofs.YtpclaceefapppaaGreatDoor.ctr
open Go.RowKit
def styleP (s : Int) : Prop := 0 ≤ s ∧ s ≤ 6
instance (s : Int) : Decidable (styleP s) := by unfold styleP; infer_instance
def styleB (s : Int) : Bool := decide (styleP s)
theorem styleB_true {s : Int} (h : styleP s) : styleB s = true := decide_eq_true h
theorem styleB_false {s : Int} (h : ¬ styleP s) : styleB s = false := decide_eq_false h
theorem style_cases {s : Int} (h : styleP s) : s = 0 ∨ s = 1 ∨ s = 2 ∨ s = 3 ∨ s = 4 ∨ s = 5 ∨ s = 6 := by unfold styleP at h; omega
def stys : List (List UInt8) := [[106, 97, 110], [109, 97, 114, 99, 104], [108, 97, 100, 121], [112, 105, 115, 97], [101, 97, 115, 116, 101, 114], [115, 101, 112, 116], [121, 117, 108, 101]]
def styText (s : Int) : ByteArray := ⟨(if styleP s then stys.getD s.toNat [] else []).toArray⟩
theorem styText_no {s : Int} (h : ¬ styleP s) : styText s = ⟨#[]⟩ := by unfold styText; rw [if_neg h]
theorem styText_some {s : Int} (h : styleP s) : (styText s).toList.isEmpty = false := by
 rw [ByteArray.toList_eq]
 rcases style_cases h with rfl | rfl | rfl | rfl | rfl | rfl | rfl <;> rfl
theorem styText_none {s : Int} (h : ¬ styleP s) : (styText s).toList.isEmpty = true := by rw [styText_no h, ByteArray.toList_eq]; rfl
theorem styleB_in (s : Int) : inB s 0 6 = styleB s := by
 by_cases h : styleP s
 · rw [styleB_true h, inB_true h.1 h.2]
 · rw [styleB_false h, inB_false]
   unfold styleP at h
   omega
def styVals : Array Value := (stys.map fun s => Value.string ⟨s.toArray⟩).toArray
theorem specNames (w : World) : Calls Tryz.prog 217 #[] w fun e w' => e = .returned (.slice (some ⟨w.heap.size, 0, none⟩) 7 7) ∧ w' = w.alloc (.cells styVals 9) := by
 go_enter Tryz.func217, Tryz.ntmps217
 go_wp2
 go_ret
 exact ⟨rfl, rfl⟩
theorem specStyleName (s : Int) (w : World) : CR 152 #[.int .i64 s] w (.string (styText s)) := by
 have KI := l01In s 0 6 w
 rw [styleB_in] at KI
 by_cases h : styleP s
 · rw [styleB_true h] at KI
   rcases style_cases h with rfl | rfl | rfl | rfl | rfl | rfl | rfl
   all_goals
    clear h
    go_enter Tryz.func152, Tryz.ntmps152
    go_wp2_with fail
    refine KI.mono ?_
    rintro e w1 ⟨rfl, hw0⟩
    rw [hw0]
    clear hw0
    go_wp2_with fail
    refine (specNames _).mono ?_
    rintro e w1 ⟨rfl, hw⟩
   focus
     have c : w1.cell? ⟨w.heap.size, 0, none⟩ = some (.string (styText 0)) := by rw [hw]; exact (Blk.new w styVals _).cell 0 rfl
   rotate_left
   focus
     have c : w1.cell? ⟨w.heap.size, 1, none⟩ = some (.string (styText 1)) := by rw [hw]; exact (Blk.new w styVals _).cell 1 rfl
   rotate_left
   focus
     have c : w1.cell? ⟨w.heap.size, 2, none⟩ = some (.string (styText 2)) := by rw [hw]; exact (Blk.new w styVals _).cell 2 rfl
   rotate_left
   focus
     have c : w1.cell? ⟨w.heap.size, 3, none⟩ = some (.string (styText 3)) := by rw [hw]; exact (Blk.new w styVals _).cell 3 rfl
   rotate_left
   focus
     have c : w1.cell? ⟨w.heap.size, 4, none⟩ = some (.string (styText 4)) := by rw [hw]; exact (Blk.new w styVals _).cell 4 rfl
   rotate_left
   focus
     have c : w1.cell? ⟨w.heap.size, 5, none⟩ = some (.string (styText 5)) := by rw [hw]; exact (Blk.new w styVals _).cell 5 rfl
   rotate_left
   focus
     have c : w1.cell? ⟨w.heap.size, 6, none⟩ = some (.string (styText 6)) := by rw [hw]; exact (Blk.new w styVals _).cell 6 rfl
   rotate_left
   all_goals
    have HB : Hid (Below w.heap.size w w1) := by unfold Hid; rw [hw]; exact (Below.refl _ _).alloc (Nat.le_refl _) _
    clear hw
    go_wp2
    go_ret
    exact ⟨rfl, HB.out⟩
 · rw [styleB_false h] at KI
   rw [styText_no h]
   clear h
   go_enter Tryz.func152, Tryz.ntmps152
   go_wp2_with fail
   refine sameC KI ?_
   go_wp2
   go_ret
   exact ⟨rfl, Below.refl _ _⟩
theorem implStyleOk (s : Int) (w : World) : CS 178 #[.int .i64 s] w (.bool (styleB s)) := by
 by_cases h1 : 0 ≤ s
 · by_cases h2 : s < 7
   · rw [styleB_true ⟨h1, by omega⟩]
     go_enter Tryz.func178, Tryz.ntmps178
     go_wp2
     go_ret
     exact ⟨rfl, rfl⟩
   · rw [styleB_false (by unfold styleP; omega)]
     have hd : decide (s < 7) = false := decide_eq_false h2
     go_enter Tryz.func178, Tryz.ntmps178
     go_wp2
     go_ret
     exact ⟨rfl, rfl⟩
 · rw [styleB_false (by unfold styleP; omega)]
   have hd : decide (0 ≤ s) = false := decide_eq_false h1
   go_enter Tryz.func178, Tryz.ntmps178
   go_wp2
   go_ret
   exact ⟨rfl, rfl⟩
def ints (l : List Int) : Array Value := (l.map (Value.int .i64)).toArray
theorem ints_at (l : List Int) (j : Nat) (h : j < l.length) : (ints l)[j]? = some (.int .i64 (l.getD j 0)) := by
 simp [ints, List.getD, h]
theorem ints_set (l : List Int) (k : Nat) (z : Int) : (ints l).setIfInBounds k (.int .i64 z) = ints (l.set k z) := by
 simp [ints, List.map_set]
theorem ints_size (l : List Int) : (ints l).size = l.length := by simp [ints]
theorem ints_app (l : List Int) (rs : Array Value) (j : Nat) (h : j < l.length) : (ints l ++ rs)[j]? = some (.int .i64 (l.getD j 0)) := by
 rw [Array.getElem?_append_left (by rw [ints_size]; exact h), ints_at l j h]
theorem ints_setA (l : List Int) (rs : Array Value) (k : Nat) (z : Int) (h : k < l.length) : (ints l ++ rs).setIfInBounds k (.int .i64 z) = ints (l.set k z) ++ rs := by
 rw [Array.setIfInBounds_append_left (by rw [ints_size]; exact h), ints_set]
def MovRow (w w' : World) (v : Value) (xs : List Int) : Prop := ∃ ad cap, v = .slice ad xs.length cap ∧ (xs = [] ∨ ∃ g t rs, ad = some ⟨g, 0, none⟩ ∧ w.heap.size ≤ g ∧ Blk w' g (ints xs ++ rs) t)
theorem movRow_nil {w w' : World} (ad : Option Addr) (cap : Nat) : MovRow w w' (.slice ad 0 cap) [] := ⟨ad, cap, rfl, .inl rfl⟩
theorem MovRow.below {w w' w'' : World} {v : Value} {xs : List Int} (h : MovRow w w' v xs) (hb : Below w'.heap.size w' w'') : MovRow w w'' v xs := by
 obtain ⟨ad, cap, rfl, h | ⟨g, t, zs, rfl, hg, hB⟩⟩ := h
 · exact ⟨ad, cap, rfl, .inl h⟩
 · exact ⟨_, cap, rfl, .inr ⟨g, t, zs, rfl, hg, hB.below hb hB.lt⟩⟩
def IntRow (w : World) (v : Value) (xs : List Int) : Prop := ∃ ad cap, v = .slice ad xs.length cap ∧ ∀ j, j < xs.length → ∃ g, ad = some ⟨g, 0, none⟩ ∧ g < w.heap.size ∧ w.cell? ⟨g, j, none⟩ = some (.int .i64 (xs.getD j 0))
theorem MovRow.row {w w' : World} {v : Value} {xs : List Int} (h : MovRow w w' v xs) : IntRow w' v xs := by
 obtain ⟨ad, cap, rfl, h | ⟨g, t, zs, rfl, _, hb⟩⟩ := h
 · subst h
   exact ⟨ad, cap, rfl, fun j hj => by simp at hj⟩
 · exact ⟨_, cap, rfl, fun j hj => ⟨g, rfl, hb.lt, hb.cell j (ints_app xs zs j hj)⟩⟩
theorem IntRow.below {w w' : World} {v : Value} {xs : List Int} (h : IntRow w v xs) (hb : Below w.heap.size w w') : IntRow w' v xs := by
 obtain ⟨ad, cap, rfl, h⟩ := h
 exact ⟨ad, cap, rfl, fun j hj => by
  obtain ⟨g, e, hg, hc⟩ := h j hj
  exact ⟨g, e, Nat.lt_of_lt_of_le hg hb.size, (hb.cell (p := ⟨g, j, none⟩) hg).trans hc⟩⟩
theorem eqInts (v1 v2 : Value) (xs : List Int) (w : World) (hx : xs.length ≤ 2000000) (h1 : IntRow w v1 xs) (h2 : IntRow w v2 xs) :
    CR 11 #[v1, v2] w (.bool true) := by
  obtain ⟨a1, c1, rfl, H1⟩ := h1
  obtain ⟨a2, c2, rfl, H2⟩ := h2
  have K1 : Hid _ := H1
  have K2 : Hid _ := H2
  clear H1 H2
  go_enter Tryz.func11, Tryz.ntmps11
  go_wp2
  go_loopw [5] (fun i wr => ∃ k : Nat, k ≤ xs.length ∧ i = .int .i64 (k : Int) ∧ ∃ m, wr = w.drewN m) (fun i _ => xs.length - (intOf i).toNat)
  case atStart => exact ⟨0, Nat.zero_le _, rfl, 0, rfl⟩
  case round =>
   obtain ⟨k, hk, rfl, m, rfl⟩ := hrel
   by_cases hlt : k < xs.length
   · obtain ⟨g1, rfl, _, e1⟩ := K1.out k hlt
     obtain ⟨g2, rfl, _, e2⟩ := K2.out k hlt
     generalize xs.getD k 0 = x at e1 e2
     go_wp2
     go_quiet (fail)
     go_wp2
     exact ⟨⟨k + 1, by omega, by go_num, _, rfl⟩, by simp [intOf]; omega⟩
   · go_wp2
     go_ret
     exact ⟨rfl, Below_drewN (Below.refl _ _) m⟩
def marks (k0 n : Nat) : List Int := (List.range n).map fun j => ((k0 + j : Nat) : Int)
theorem marks_len (k0 n : Nat) : (marks k0 n).length = n := by simp [marks]
theorem marks_at (k0 n j : Nat) (h : j < n) : (marks k0 n).getD j 0 = ((k0 + j : Nat) : Int) := by simp [marks, List.getD, h]
def marked (xs : List Int) (k0 k : Nat) : List Int := marks k0 k ++ xs.drop k
theorem marked_len (xs : List Int) (k0 k : Nat) (h : k ≤ xs.length) : (marked xs k0 k).length = xs.length := by simp [marked, marks_len]; omega
theorem marked_all (xs : List Int) (k0 : Nat) : marked xs k0 xs.length = marks k0 xs.length := by simp [marked]
theorem marked_set (xs : List Int) (k0 k : Nat) (h : k < xs.length) : (marked xs k0 k).set k ((k0 + k : Nat) : Int) = marked xs k0 (k + 1) := by
 unfold marked marks
 rw [List.set_append_right _ _ (by simp), List.length_map, List.length_range, Nat.sub_self, List.range_succ, List.map_append, List.drop_eq_getElem_cons h, List.set_cons_zero, List.append_assoc]
 rfl
theorem markInts (g cap k0 : Nat) (xs : List Int) (zs : Array Value) (t : TypeId) (w W : World) (hn : xs.length ≤ 2000000) (hk1 : k0 ≤ 2000000) (hg : W.heap.size ≤ g) (hW : Below W.heap.size W w) (ho : Blk w g (ints xs ++ zs) t) :
    Calls Tryz.prog 14 #[.slice (some ⟨g, 0, none⟩) xs.length cap, .int .i64 (k0 : Int)] w fun e w' => e = .returned (.int .i64 ((k0 + xs.length : Nat) : Int)) ∧ w.grownBy w' (some g) ∧ Below W.heap.size W w' ∧ Blk w' g (ints (marks k0 xs.length) ++ zs) t := by
  have HO := hideP ho
  have HW := hideP hW
  clear ho hW
  go_enter Tryz.func14, Tryz.ntmps14
  go_wp2
  go_loopw [1, 5] (fun u i wr => ∃ k : Nat, k ≤ xs.length ∧ i = .int .i64 (k : Int) ∧ u = .int .i64 ((k0 + k : Nat) : Int) ∧ w.grownBy wr (some g) ∧ Below W.heap.size W wr ∧ Blk wr g (ints (marked xs k0 k) ++ zs) t) (fun _ i _ => xs.length - (intOf i).toNat)
  case atStart => exact ⟨0, Nat.zero_le _, rfl, rfl, ⟨rfl, rfl, rfl, Nat.le_refl _, fun _ _ _ => rfl⟩, HW.out, by simpa [marked, marks] using HO.out⟩
  case round =>
   obtain ⟨k, hk, rfl, rfl, hG, hB, hM⟩ := hrel
   have HG := hideP hG
   have HB := hideP hB
   have HM := hideP hM
   clear hG hM hB
   by_cases hlt : k < xs.length
   · have c0 := HM.out.cell k (ints_app (marked xs k0 k) zs k (by rw [marked_len _ _ _ hk]; exact hlt))
     have hlm : k < (marked xs k0 k).length := by rw [marked_len _ _ _ hk]; exact hlt
     have f0 := HM.out.thaw k
     have HS := hideP (marked_set xs k0 k hlt)
     have HL := hideP hlm
     clear hlm
     generalize (marked xs k0 k).getD k 0 = z at *
     go_wp2
     refine ⟨⟨k + 1, by omega, by go_num, by go_num, ?_, below_store HB.out _ hg, ?_⟩, by simp [intOf]; omega⟩
     · exact ⟨HG.out.os, HG.out.tape, HG.out.output, by simpa [World.setCell] using HG.out.size, fun j hj hr => (Below.heap_setCell wr _ _ j (fun e => hr (by rw [e]))).trans (HG.out.block j hj hr)⟩
     · have h := HM.out.set k (.int .i64 ((k0 + k : Nat) : Int))
       rw [ints_setA _ _ _ _ HL.out, HS.out] at h
       first | exact h | simpa using h
   · have hkn : k = xs.length := by omega
     subst hkn
     go_wp2
     go_ret
     exact ⟨rfl, HG.out, HB.out, by rw [← marked_all]; exact HM.out⟩
theorem markNone (a : Option Addr) (cap : Nat) (k0 : Nat) (w : World) : CS 14 #[.slice a 0 cap, .int .i64 (k0 : Int)] w (.int .i64 (k0 : Int)) := by
 go_enter Tryz.func14, Tryz.ntmps14
 go_wp2
 go_loopw [1, 5] (fun u i wr => i = .int .i64 0 ∧ u = .int .i64 (k0 : Int) ∧ wr = w) (fun _ _ _ => 0)
 case atStart => exact ⟨rfl, rfl, rfl⟩
 case round =>
  obtain ⟨rfl, rfl, rfl⟩ := hrel
  go_wp2
  go_ret
  exact ⟨rfl, rfl⟩
theorem heldInts (v : Value) (k0 n : Nat) (w : World) (hn : n ≤ 2000000) (hk1 : k0 ≤ 2000000) (h1 : IntRow w v (marks k0 n)) :
    CR 15 #[v, .int .i64 (k0 : Int)] w (.int .i64 ((k0 + n : Nat) : Int)) := by
  obtain ⟨a1, c1, rfl, H1⟩ := h1
  rw [marks_len] at *
  have K1 : Hid _ := H1
  clear H1
  go_enter Tryz.func15, Tryz.ntmps15
  go_wp2
  go_loopw [1, 5] (fun u i wr => ∃ k : Nat, k ≤ n ∧ i = .int .i64 (k : Int) ∧ u = .int .i64 ((k0 + k : Nat) : Int) ∧ ∃ m, wr = w.drewN m) (fun _ i _ => n - (intOf i).toNat)
  case atStart => exact ⟨0, Nat.zero_le _, rfl, rfl, 0, rfl⟩
  case round =>
   obtain ⟨k, hk, rfl, rfl, m, rfl⟩ := hrel
   by_cases hlt : k < n
   · obtain ⟨g1, rfl, _, e1⟩ := K1.out k hlt
     rw [marks_at k0 n k hlt] at e1
     go_wp2
     exact ⟨⟨k + 1, by omega, by go_num, by go_num, _, rfl⟩, by simp [intOf]; omega⟩
   · have hkn : k = n := by omega
     subst hkn
     go_wp2
     go_ret
     exact ⟨rfl, Below_drewN (Below.refl _ _) m⟩
theorem markRow (W w : World) (v : Value) (xs : List Int) (hn : xs.length ≤ 2000000) (h : MovRow W w v xs) (hW : Below W.heap.size W w) :
    Calls Tryz.prog 14 #[v, .int .i64 1] w fun e w' => e = .returned (.int .i64 ((1 + xs.length : Nat) : Int)) ∧ Below W.heap.size W w' ∧ IntRow w' v (marks 1 xs.length) := by
  obtain ⟨ad, cap, rfl, h | ⟨g, t, zs, rfl, hg, hB⟩⟩ := h
  · subst h
    exact (markNone ad cap 1 w).mono fun e w' ⟨he, hw⟩ => ⟨he, by rw [hw]; exact hW, ⟨ad, cap, rfl, fun j hj => by simp [marks] at hj⟩⟩
  · refine (markInts g cap 1 xs zs t w W (by omega) (by omega) hg hW hB).mono ?_
    rintro e w' ⟨he, _, hb, hk⟩
    exact ⟨he, hb, ⟨_, cap, by rw [marks_len], fun j hj => ⟨g, rfl, hk.lt, hk.cell j (ints_app _ zs j hj)⟩⟩⟩
theorem own_ints {w W : World} {v : Value} {xs : List Int} {e : TypeId} (h : W.ownsRow w.heap.size e 1 v xs.length (xs.map (Value.int .i64))) : MovRow w W v xs := by
 rcases h.2 with ⟨hv, h0⟩ | ⟨g, cap, cur, hv, hb, hh, hcap, _, hsz, htake⟩
 · subst hv
   exact ⟨none, 0, by rw [h0], .inl (List.length_eq_zero_iff.1 h0)⟩
 · subst hv
   refine ⟨_, cap, rfl, .inr ⟨g, e, (cur.toList.drop xs.length).toArray, rfl, hb, ?_⟩⟩
   have e1 : cur = ints xs ++ (cur.toList.drop xs.length).toArray := by
    apply Array.toList_inj.1
    rw [Array.toList_append]
    show cur.toList = (xs.map (Value.int .i64)) ++ cur.toList.drop xs.length
    rw [← htake]
    simp
   unfold Blk
   rw [← e1]
   exact hh
theorem info_int : (Tryz.prog.info? 3).map (fun i => (i.zero, i.size, i.bytes)) = some (some (.int .i64 0), 1, 8) := by kernel_rfl
end Go.Proofs.YtpclaceefapppaaGreatDoor.ctr
