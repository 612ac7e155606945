/- errors.As at an error of the program's own type, held in an interface by value, and a variable of that type: t; and what else the law reaches. -/
import Derived.Test.YtdmlhiailjnhcaaGreatDoorJnXaa
import Derived.WalkKit
import Derived.LaidEql
import Derived.Stop.Asserts
import Derived.RowKitTokens
import Derived.Test.YtdmlhiailjnhcaaGreatDoorJnXab
import Derived.Stop.LaidErr
import Derived.Laws.AppendOwn
import Derived.PlainAid
import Derived.Deep.WholeRow
import Derived.Sort.Row
import Derived.Sort.Grow
import Derived.Lib.LazyBuf
namespace Go.Proofs.YtdmlhiailjnhcaaGreatDoor.ctr
open Go.RowKit Go.Extern.Stop Go.Stop Go.Extern
theorem as_nil (t : Value) (w : World) : Calls Tryz.prog 201 #[.nilIface, t] w fun e w' => e = .returned (.bool false) ∧ w' = w := by
 go_enter Tryz.func201, Tryz.ntmps201
 go_wp2
 go_ret
 exact ⟨rfl, rfl⟩
theorem a_valueOfP (t : Addr) (w : World) : (ReflectliteValue.unpack (.iface 219 (.pointer (some t)))).run Tryz.prog w
    = .ok (.agg #[.pointer (some ⟨10, 219, none⟩), .pointer (some ⟨w.heap.size, 0, none⟩), .int .u64 150]) (w.alloc (.cells #[.pointer (some t)] 219)) := by kernel_rfl
theorem a_typeP (a : Addr) (w : World) : (ReflectliteValue.methodAny (ReflectliteValue.valueError "reflectlite.Value.Type" 0) (fun t _ _ _ => ReflectliteType.toType t) #[.agg #[.pointer (some ⟨10, 219, none⟩), .pointer (some a), .int .u64 150]]).run Tryz.prog w
    = .ok (.iface 269 (.agg #[.pointer (some ⟨10, 219, none⟩)])) w := by kernel_rfl
theorem a_mKind (h : Value) (w : World) : (Go.method 472 269 (.agg #[h]) "Kind").run Tryz.prog w = .ok (332, h) w := by kernel_rfl
theorem a_kindP (w : World) : ((ReflectliteType.abiMethod fun t => (fun a : Nat => Value.int IntKind.u8 (a : Int)) <$> Rtype.kind t) #[.pointer (some ⟨10, 219, none⟩)]).run Tryz.prog w = .ok (.int .u8 22) w := by kernel_rfl
theorem a_kindS (w : World) : ((ReflectliteType.abiMethod fun t => (fun a : Nat => Value.int IntKind.u8 (a : Int)) <$> Rtype.kind t) #[.pointer (some ⟨10, 216, none⟩)]).run Tryz.prog w = .ok (.int .u8 25) w := by kernel_rfl
theorem a_mElem (h : Value) (w : World) : (Go.method 472 269 (.agg #[h]) "Elem").run Tryz.prog w = .ok (359, .agg #[h]) w := by kernel_rfl
theorem a_mImpl (h : Value) (w : World) : (Go.method 472 269 (.agg #[h]) "Implements").run Tryz.prog w = .ok (360, .agg #[h]) w := by kernel_rfl
theorem a_mAssign (h : Value) (w : World) : (Go.method 472 269 (.agg #[h]) "AssignableTo").run Tryz.prog w = .ok (357, .agg #[h]) w := by kernel_rfl
theorem a_elemT (w : World) : (ReflectliteType.method ReflectliteType.elem #[.agg #[.pointer (some ⟨10, 219, none⟩)]]).run Tryz.prog w = .ok (.iface 269 (.agg #[.pointer (some ⟨10, 216, none⟩)])) w := by kernel_rfl
theorem a_implS (w : World) : (ReflectliteType.relation "Implements" ReflectliteType.implements_ #[.agg #[.pointer (some ⟨10, 216, none⟩)], .iface 269 (.agg #[.pointer (some ⟨10, 181, none⟩)])]).run Tryz.prog w = .ok (.bool true) w := by kernel_rfl
theorem a_typeOfS (v : Value) (w : World) : (ReflectliteType.typeOf #[.iface 216 v]).run Tryz.prog w = .ok (.iface 269 (.agg #[.pointer (some ⟨10, 216, none⟩)])) w := by kernel_rfl
theorem a_assignS (w : World) : (ReflectliteType.relation "AssignableTo" ReflectliteType.assignableTo #[.agg #[.pointer (some ⟨10, 216, none⟩)], .iface 269 (.agg #[.pointer (some ⟨10, 216, none⟩)])]).run Tryz.prog w = .ok (.bool true) w := by kernel_rfl
theorem a_valueOfS (a b : Int) (w : World) : (ReflectliteValue.unpack (.iface 216 (.agg #[.int .i64 a, .int .i64 b]))).run Tryz.prog w
    = .ok (.agg #[.pointer (some ⟨10, 216, none⟩), .pointer (some ⟨w.heap.size, 0, none⟩), .int .u64 153]) (w.alloc (.cells #[.int .i64 a, .int .i64 b] 216)) := by kernel_rfl
theorem a_rlm (z : Sem Value) (f : TypeId → Addr → Nat → Nat → Sem Value) (v : Value) :
    ReflectliteValue.method z f #[v] = (do match ← ReflectliteValue.parts v with | none => z | some (t, a, fl) => f t a fl (fl % 32)) := rfl
theorem a_partsP (a : Addr) (w : World) : (ReflectliteValue.parts (.agg #[.pointer (some ⟨10, 219, none⟩), .pointer (some a), .int .u64 150])).run Tryz.prog w = .ok (some (219, a, 150)) w := by kernel_rfl
theorem a_isNilP (a p : Addr) (W : World) (ha : W.cell? a = some (.pointer (some p))) :
    (ReflectliteValue.method (ReflectliteValue.valueError "reflectlite.Value.IsNil" 0) ReflectliteValue.isNil #[.agg #[.pointer (some ⟨10, 219, none⟩), .pointer (some a), .int .u64 150]]).run Tryz.prog W = .ok (.bool false) W := by
  rw [a_rlm]
  simp only [Sem.run_bind, a_partsP, Result.andThen]
  simp [ReflectliteValue.isNil, loadVar, isAgg, underlying, Tryz.underlying219, ha, Result.andThen]
theorem a_elemOf (w : World) : (Rtype.elem? 219).run Tryz.prog w = .ok (some 216) w := by kernel_rfl
theorem a_mkS (p : Addr) (w : World) : (ReflectliteValue.mk 216 p ReflectliteValue.flagAddr).run Tryz.prog w = .ok (.agg #[.pointer (some ⟨10, 216, none⟩), .pointer (some p), .int .u64 409]) w := by kernel_rfl
theorem a_elemV (a p : Addr) (W : World) (ha : W.cell? a = some (.pointer (some p))) :
    (ReflectliteValue.method (ReflectliteValue.valueError "reflectlite.Value.Elem" 0) ReflectliteValue.elem #[.agg #[.pointer (some ⟨10, 219, none⟩), .pointer (some a), .int .u64 150]]).run Tryz.prog W
      = .ok (.agg #[.pointer (some ⟨10, 216, none⟩), .pointer (some p), .int .u64 409]) W := by
  rw [a_rlm]
  simp only [Sem.run_bind, a_partsP, Result.andThen]
  simp [ReflectliteValue.elem, loadVar, isAgg, underlying, Tryz.underlying219, ha, Result.andThen, a_elemOf, a_mkS]
theorem a_rls (v x : Value) : ReflectliteValue.set #[v, x] = (do
 let (some (dst, a, fl), some (src, b, _)) := (← ReflectliteValue.parts v, ← ReflectliteValue.parts x)
   | unsupported (.noEntry "extern/(internal/reflectlite.Value).Set.zeroValue")
 if fl / ReflectliteValue.flagAddr % 2 == 0 then unsupported (.noEntry "extern/(internal/reflectlite.Value).Set.unaddressable")
 let val ← loadVar src b
 if ← Rtype.directlyAssignable dst src then storeVar dst a val
 else if ← Rtype.implements dst src then
  if (← Rtype.kind src) == 20 then
   match val with
   | .nilIface => unsupported (.noEntry "extern/reflectlite: a nil value of one interface type handed on as a value of another")
   | _ => storeVar dst a val
  else storeVar dst a (.iface src val)
 else panicString ("reflectlite.Set: value of type " ++ (← Rtype.spelt src) ++ " is not assignable to type " ++ (← Rtype.spelt dst))
 pure (.tuple #[])) := rfl
theorem a_partsA (a : Addr) (w : World) : (ReflectliteValue.parts (.agg #[.pointer (some ⟨10, 216, none⟩), .pointer (some a), .int .u64 409])).run Tryz.prog w = .ok (some (216, a, 409)) w := by kernel_rfl
theorem a_partsS (a : Addr) (w : World) : (ReflectliteValue.parts (.agg #[.pointer (some ⟨10, 216, none⟩), .pointer (some a), .int .u64 153])).run Tryz.prog w = .ok (some (216, a, 153)) w := by kernel_rfl
theorem a_direct (w : World) : (Rtype.directlyAssignable 216 216).run Tryz.prog w = .ok true w := by kernel_rfl
end Go.Proofs.YtdmlhiailjnhcaaGreatDoor.ctr
namespace Go.Proofs.YtdmlhiailjnhcaaGreatDoor.ctr
open Go.RowKit Go.Extern.Stop Go.Stop Go.Extern
theorem isTypeOf (v : Value) (w : World) : (Extern.ReflectliteType.typeOf #[.iface 341 v]).run Tryz.prog w = .ok (.iface 269 (.agg #[.pointer (some ⟨10, 341, none⟩)])) w := by kernel_rfl
def cmpEntry : Array Value → Sem Value := Extern.ReflectliteType.method fun t => do Rtype.noPackHeld "Comparable" t; pure (.bool (← typeInfo t).comparable)
theorem isComparable (w : World) : (cmpEntry #[.agg #[.pointer (some ⟨10, 341, none⟩)]]).run Tryz.prog w = .ok (.bool true) w := by kernel_rfl
theorem isMethodComparable (v : Value) (w : World) : (Go.method 372 269 v "Comparable").run Tryz.prog w = .ok (358, v) w := by kernel_rfl
theorem isComp : (Tryz.prog.info? 341).map (·.comparable) = some true := by kernel_rfl
theorem isSize : (Tryz.prog.info? 360).map (·.size) = some 1 := by kernel_rfl
theorem noIsR (v : Value) (xT : TypeId) (w : World) : (Instr.typeAssert (.iface 225 v) xT 271 true).run Tryz.prog w = .ok (.tuple #[.nilIface, .bool false]) w := run_typeAssert_lacksB Tryz.underlying271 (by kernel_rfl) (by kernel_rfl) v xT w
theorem hasUnwrapR (v : Value) (xT : TypeId) (w : World) : (Instr.typeAssert (.iface 225 v) xT 274 true).run Tryz.prog w = .ok (.tuple #[.iface 225 v, .bool true]) w := run_typeAssert_hasB Tryz.underlying274 (by kernel_rfl) v xT w
theorem methodUnwrap (v : Value) (w : World) : (Go.method 372 225 v "Unwrap").run Tryz.prog w = .ok (351, v) w := by kernel_rfl
def Sent (w : World) (a : Addr) : Prop := w.cell? ⟨0, 0, none⟩ = some (.iface 341 (.pointer (some a)))
theorem Sent.later {w w' : World} {a : Addr} (h : Sent w a) (hb : Below w.heap.size w w') : Sent w' a := Later.at h ⟨w', hb⟩
theorem implUnwrap (z : Int) (a : Addr) (w : World) (h : Sent w a) : CR 351 #[.agg #[.int .i64 z]] w (.iface 341 (.pointer (some a))) := by
 have hb : Below w.heap.size w (w.alloc (.cells #[.int .i64 z] 225)) := (Below.refl _ _).alloc (Nat.le_refl _) _
 have h1 : Sent (w.alloc (.cells #[.int .i64 z] 225)) a := h.later hb
 have HB := hideP hb
 unfold Sent at h1
 clear hb h
 go_enter Tryz.func351, Tryz.ntmps351
 go_wp2
 go_ret
 exact ⟨rfl, HB.out⟩
set_option maxHeartbeats 2000000 in
theorem isWrong (z : Int) (a : Addr) (w : World) (h : Sent w a) : CR 204 #[.iface 225 (.agg #[.int .i64 z]), .iface 341 (.pointer (some a)), .bool true] w (.bool true) := by
 obtain ⟨i, hi, hcmp⟩ := Option.map_eq_some_iff.1 isComp
 obtain ⟨j, hj, hjs⟩ := Option.map_eq_some_iff.1 isSize
 have nW := noIsR
 have uW := hasUnwrapR
 have mU := methodUnwrap
 have heq := fun W => run_eql_iface_ptr_same (P := Tryz.prog) W a Tryz.underlying181 Tryz.underlying341 hi hcmp hj
 have hty := fun W => run_eql_iface_types (P := Tryz.prog) 225 341 (.agg #[.int .i64 z]) (.pointer (some a)) Tryz.underlying181 (by decide) W
 go_enter Tryz.func204, Tryz.ntmps204
 go_wp2
 refine wp_loop_rounds 2 ?_
 rw [rounds_succ]
 go_wp2_with fail
 refine (implUnwrap z a _ h).mono ?_
 rintro e w1 ⟨rfl, hb⟩
 have HB := hideP hb
 clear hb
 go_wp2
 rw [rounds_succ]
 go_wp2
 go_ret
 exact ⟨rfl, HB.out⟩
set_option maxHeartbeats 2000000 in
theorem implIsWrong (z : Int) (a : Addr) (w : World) (h : Sent w a) : CR 156 #[.iface 225 (.agg #[.int .i64 z]), .iface 341 (.pointer (some a))] w (.bool true) := by
 have h8 := @run_callFunc_extern Tryz.prog 203 _ Extern.ReflectliteType.typeOf Tryz.func203 (by kernel_rfl) (by kernel_rfl) (by kernel_rfl) (by kernel_rfl)
 have h32 := @run_callFunc_extern Tryz.prog 358 _ cmpEntry Tryz.func358 (by kernel_rfl) (by kernel_rfl) (by kernel_rfl) (by kernel_rfl)
 have tT := isTypeOf
 have cT := isComparable
 have mR := isMethodComparable
 go_enter Tryz.func156, Tryz.ntmps156
 go_wp2_with fail
 refine (isWrong z a _ h).mono ?_
 rintro e w1 ⟨rfl, hb⟩
 have HB := hideP hb
 clear hb
 go_wp2
 go_ret
 exact ⟨rfl, HB.out⟩
theorem implIsNil (b : Addr) (w : World) : CR 156 #[.nilIface, .iface 341 (.pointer (some b))] w (.bool false) := by
 have hn := run_eql_iface_nil_left (P := Tryz.prog) w 341 (.pointer (some b)) Tryz.underlying181
 go_enter Tryz.func156, Tryz.ntmps156
 go_wp2
 go_ret
 exact ⟨rfl, Below.refl _ _⟩
end Go.Proofs.YtdmlhiailjnhcaaGreatDoor.ctr
namespace Go.Proofs.YtdmlhiailjnhcaaGreatDoor.kit
open Go.RowKit
theorem star : "*" ++ "errors.errorString" = "*errors.errorString" := by decide
theorem rowErr (u : TypeId) (h : Tryz.prog.typeName? 3 u = some "*errors.errorString") : u = 341 :=
 typeName_ptr_named (nm := "errors.errorString") (by rw [star]; kernel_rfl) (by kernel_rfl) (by decide) u (by rw [star]; exact h)
theorem cellsErr : Tryz.prog.cellsOf 360 = 1 := by kernel_rfl
theorem cellsStr : Tryz.prog.cellsOf 9 = 1 := by kernel_rfl
theorem gErr : Tryz.prog.globalNamed "loop.example/g00638/impl.errNoTable" = some 0 := by kernel_rfl
theorem gErrType : (Tryz.prog.globals[0]?).map (·.type) = some 181 := by kernel_rfl
theorem sent_of {text : List UInt8} {r : List (String × DataW Unit)} {W : World} (h : laidMet Tryz.prog (("loop.example/g00638/impl.errNoTable", .iface "*errors.errorString" (.ptr (.agg [.lit (.string text)]))) :: r) W) : ∃ a, ctr.Sent W a := by
 obtain ⟨a, s, hv, _⟩ := laid_sentinel h gErr gErrType Tryz.underlying181 rowErr Tryz.underlying341 Tryz.underlying360 rfl rfl Tryz.underlying9 cellsErr cellsStr
 exact ⟨a, by unfold ctr.Sent; simpa using World.var?_cell gErr hv 0⟩
end Go.Proofs.YtdmlhiailjnhcaaGreatDoor.kit
namespace Go.Proofs.YtdmlhiailjnhcaaGreatDoor.ctr
open Go.RowKit
def styleP (s : Int) : Prop := 0 ≤ s ∧ s ≤ 6
instance (s : Int) : Decidable (styleP s) := by unfold styleP; infer_instance
def styleB (s : Int) : Bool := decide (styleP s)
theorem styleB_true {s : Int} (h : styleP s) : styleB s = true := decide_eq_true h
theorem styleB_false {s : Int} (h : ¬ styleP s) : styleB s = false := decide_eq_false h
theorem style_cases {s : Int} (h : styleP s) : s = 0 ∨ s = 1 ∨ s = 2 ∨ s = 3 ∨ s = 4 ∨ s = 5 ∨ s = 6 := by unfold styleP at h; omega
def stys : List (List UInt8) := [[106, 97, 110], [109, 97, 114, 99, 104], [108, 97, 100, 121], [112, 105, 115, 97], [101, 97, 115, 116, 101, 114], [115, 101, 112, 116], [121, 117, 108, 101]]
def styText (s : Int) : ByteArray := ⟨(if styleP s then stys.getD s.toNat [] else []).toArray⟩
theorem styText_no {s : Int} (h : ¬ styleP s) : styText s = ⟨#[]⟩ := by unfold styText; rw [if_neg h]
theorem styText_some {s : Int} (h : styleP s) : (styText s).toList.isEmpty = false := by
 rw [ByteArray.toList_eq]
 rcases style_cases h with rfl | rfl | rfl | rfl | rfl | rfl | rfl <;> rfl
theorem styText_none {s : Int} (h : ¬ styleP s) : (styText s).toList.isEmpty = true := by rw [styText_no h, ByteArray.toList_eq]; rfl
theorem styleB_in (s : Int) : inB s 0 6 = styleB s := by
 by_cases h : styleP s
 · rw [styleB_true h, inB_true h.1 h.2]
 · rw [styleB_false h, inB_false]
   unfold styleP at h
   omega
def styVals : Array Value := (stys.map fun s => Value.string ⟨s.toArray⟩).toArray
theorem specNames (w : World) : Calls Tryz.prog 172 #[] w fun e w' => e = .returned (.slice (some ⟨w.heap.size, 0, none⟩) 7 7) ∧ w' = w.alloc (.cells styVals 9) := by
 go_enter Tryz.func172, Tryz.ntmps172
 go_wp2
 go_ret
 exact ⟨rfl, rfl⟩
set_option maxHeartbeats 400000 in
theorem specStyleName (s : Int) (w : World) : CR 131 #[.int .i64 s] w (.string (styText s)) := by
 have KI := l01In s 0 6 w
 rw [styleB_in] at KI
 by_cases h : styleP s
 · rw [styleB_true h] at KI
   rcases style_cases h with rfl | rfl | rfl | rfl | rfl | rfl | rfl
   all_goals
    clear h
    go_enter Tryz.func131, Tryz.ntmps131
    go_wp2_with fail
    refine KI.mono ?_
    rintro e w1 ⟨rfl, hw0⟩
    rw [hw0]
    clear hw0
    go_wp2_with fail
    refine (specNames _).mono ?_
    rintro e w1 ⟨rfl, hw⟩
   focus
     have c : w1.cell? ⟨w.heap.size, 0, none⟩ = some (.string (styText 0)) := by rw [hw]; exact (Blk.new w styVals _).cell 0 rfl
   rotate_left
   focus
     have c : w1.cell? ⟨w.heap.size, 1, none⟩ = some (.string (styText 1)) := by rw [hw]; exact (Blk.new w styVals _).cell 1 rfl
   rotate_left
   focus
     have c : w1.cell? ⟨w.heap.size, 2, none⟩ = some (.string (styText 2)) := by rw [hw]; exact (Blk.new w styVals _).cell 2 rfl
   rotate_left
   focus
     have c : w1.cell? ⟨w.heap.size, 3, none⟩ = some (.string (styText 3)) := by rw [hw]; exact (Blk.new w styVals _).cell 3 rfl
   rotate_left
   focus
     have c : w1.cell? ⟨w.heap.size, 4, none⟩ = some (.string (styText 4)) := by rw [hw]; exact (Blk.new w styVals _).cell 4 rfl
   rotate_left
   focus
     have c : w1.cell? ⟨w.heap.size, 5, none⟩ = some (.string (styText 5)) := by rw [hw]; exact (Blk.new w styVals _).cell 5 rfl
   rotate_left
   focus
     have c : w1.cell? ⟨w.heap.size, 6, none⟩ = some (.string (styText 6)) := by rw [hw]; exact (Blk.new w styVals _).cell 6 rfl
   rotate_left
   all_goals
    have HB : Hid (Below w.heap.size w w1) := by unfold Hid; rw [hw]; exact (Below.refl _ _).alloc (Nat.le_refl _) _
    clear hw
    go_wp2
    go_ret
    exact ⟨rfl, HB.out⟩
 · rw [styleB_false h] at KI
   rw [styText_no h]
   clear h
   go_enter Tryz.func131, Tryz.ntmps131
   go_wp2_with fail
   refine KI.mono ?_
   rintro e w1 ⟨rfl, rfl⟩
   go_wp2
   go_ret
   exact ⟨rfl, Below.refl _ _⟩
theorem implStyleOk (s : Int) (w : World) : Calls Tryz.prog 181 #[.int .i64 s] w fun e w' => e = .returned (.bool (styleB s)) ∧ w' = w := by
 by_cases h1 : 0 ≤ s
 · by_cases h2 : s < 7
   · rw [styleB_true ⟨h1, by omega⟩]
     go_enter Tryz.func181, Tryz.ntmps181
     go_wp2
     go_ret
     exact ⟨rfl, rfl⟩
   · rw [styleB_false (by unfold styleP; omega)]
     have hd : decide (s < 7) = false := decide_eq_false h2
     go_enter Tryz.func181, Tryz.ntmps181
     go_wp2
     go_ret
     exact ⟨rfl, rfl⟩
 · rw [styleB_false (by unfold styleP; omega)]
   have hd : decide (0 ≤ s) = false := decide_eq_false h1
   go_enter Tryz.func181, Tryz.ntmps181
   go_wp2
   go_ret
   exact ⟨rfl, rfl⟩
def lowB (c : UInt8) : Bool := inB c.toNat 97 122
def lows (s : ByteArray) (k : Nat) : Bool := (s.data.toList.take k).all lowB
def nameOk (s : ByteArray) : Bool := inB s.size 1 16 && lows s s.size
theorem lows_succ (s : ByteArray) (k : Nat) (h : k < s.size) (h1 : lows s k = true) (h2 : lowB s[k] = true) : lows s (k + 1) = true := by
 unfold lows at *
 rw [take_snoc s k h, List.all_append, h1]
 simp [h2]
theorem lows_stop (s : ByteArray) (k : Nat) (h : k < s.size) (h2 : lowB s[k] = false) : nameOk s = false := by
 have : lows s s.size = false := by
  unfold lows
  rw [List.all_eq_false]
  refine ⟨s[k], ?_, by simp [h2]⟩
  rw [List.take_of_length_le (show s.data.toList.length ≤ s.size from Nat.le_refl _)]
  exact List.getElem_mem (l := s.data.toList) (n := k) h
 simp [nameOk, this]
theorem lows_done (s : ByteArray) (k : Nat) (h : k = s.size) (h1 : lows s k = true) : nameOk s = inB s.size 1 16 := by
 subst h
 simp [nameOk, h1]
set_option maxHeartbeats 400000 in
theorem specNameOk (s : ByteArray) (w : World) (hs : s.size ≤ maxLen) :
    Calls Tryz.prog 102 #[.string s] w fun e w' => e = .returned (.bool (nameOk s)) ∧ w' = w := by
  unfold maxLen at hs
  go_enter Tryz.func102, Tryz.ntmps102
  go_wp2
  go_loop [3] (fun i => ∃ k : Nat, k ≤ s.size ∧ i = .int .i64 k ∧ lows s k = true) (fun i => s.size - (intOf i).toNat)
  case atStart => exact ⟨0, Nat.zero_le _, rfl, by simp [lows]⟩
  case round =>
   obtain ⟨k, hk, rfl, hl⟩ := hrel
   have HL : Hid (lows s k = true) := hl
   clear hl
   by_cases hlt : k < s.size
   · cases hb : lowB s[k]
     · have HB : Hid (nameOk s = false) := lows_stop s k hlt hb
       have hb' : inB (wrap64 (s[k].toNat : Int)) 97 122 = false := by rw [byte64]; exact hb
       clear hb
       go_wp2_with (go_at_call 45; refine (l01In _ _ _ _).mono ?_; rintro e w' ⟨rfl, rfl⟩)
       go_ret
       exact ⟨ret_bool HB.out.symm, rfl⟩
     · have HN : Hid (lows s (k + 1) = true) := lows_succ s k hlt HL.out hb
       have hb' : inB (wrap64 (s[k].toNat : Int)) 97 122 = true := by rw [byte64]; exact hb
       clear hb
       go_wp2_with (go_at_call 45; refine (l01In _ _ _ _).mono ?_; rintro e w' ⟨rfl, rfl⟩)
       exact ⟨⟨k + 1, by omega, by go_num, HN.out⟩, by simp [intOf]; omega⟩
   · have HD : Hid (nameOk s = inB s.size 1 16) := lows_done s k (by omega) HL.out
     go_wp2_with (go_at_call 45; refine (l01In _ _ _ _).mono ?_; rintro e w' ⟨rfl, rfl⟩)
     go_ret
     exact ⟨ret_bool HD.out.symm, rfl⟩
set_option maxHeartbeats 400000 in
theorem implNameOk (s : ByteArray) (w : World) (hs : s.size ≤ maxLen) :
    Calls Tryz.prog 106 #[.string s] w fun e w' => e = .returned (.bool (nameOk s)) ∧ w' = w := by
  unfold maxLen at hs
  by_cases h1 : s.size < 1
  · have HB : Hid (nameOk s = false) := by unfold Hid nameOk; rw [inB_false (.inl (by omega))]; rfl
    go_enter Tryz.func106, Tryz.ntmps106
    go_wp2
    go_ret
    exact ⟨ret_bool HB.out.symm, rfl⟩
  by_cases h2 : 16 < s.size
  · have HB : Hid (nameOk s = false) := by unfold Hid nameOk; rw [inB_false (.inr (by omega))]; rfl
    go_enter Tryz.func106, Tryz.ntmps106
    go_wp2
    go_ret
    exact ⟨ret_bool HB.out.symm, rfl⟩
  go_enter Tryz.func106, Tryz.ntmps106
  go_wp2
  go_loop [14] (fun i => ∃ k : Nat, k ≤ s.size ∧ i = .int .i64 k ∧ lows s k = true) (fun i => s.size - (intOf i).toNat)
  case atStart => exact ⟨0, Nat.zero_le _, rfl, by simp [lows]⟩
  case round =>
   obtain ⟨k, hk, rfl, hl⟩ := hrel
   have HL : Hid (lows s k = true) := hl
   clear hl
   by_cases hlt : k < s.size
   · by_cases c1 : (s[k].toNat : Int) < 97
     · have HB : Hid (nameOk s = false) := lows_stop s k hlt (inB_false (.inl c1))
       go_wp2
       go_ret
       exact ⟨ret_bool HB.out.symm, rfl⟩
     · by_cases c2 : 122 < (s[k].toNat : Int)
       · have HB : Hid (nameOk s = false) := lows_stop s k hlt (inB_false (.inr c2))
         go_wp2
         go_ret
         exact ⟨ret_bool HB.out.symm, rfl⟩
       · have HN : Hid (lows s (k + 1) = true) := lows_succ s k hlt HL.out (inB_true (by omega) (by omega))
         go_wp2
         exact ⟨⟨k + 1, by omega, by go_num, HN.out⟩, by simp [intOf]; omega⟩
   · have HD : Hid (nameOk s = true) := by unfold Hid; rw [lows_done s k (by omega) HL.out, inB_true (by omega) (by omega)]
     go_wp2
     go_ret
     exact ⟨ret_bool HD.out.symm, rfl⟩
def ints (l : List Int) : Array Value := (l.map (Value.int .i64)).toArray
theorem ints_at (l : List Int) (j : Nat) (h : j < l.length) : (ints l)[j]? = some (.int .i64 (l.getD j 0)) := by
 simp [ints, List.getD, h]
theorem ints_size (l : List Int) : (ints l).size = l.length := by simp [ints]
theorem ints_app (l : List Int) (rs : Array Value) (j : Nat) (h : j < l.length) : (ints l ++ rs)[j]? = some (.int .i64 (l.getD j 0)) := by
 rw [Array.getElem?_append_left (by rw [ints_size]; exact h), ints_at l j h]
def MovRow (w w' : World) (v : Value) (xs : List Int) : Prop := ∃ ad cap, v = .slice ad xs.length cap ∧ (xs = [] ∨ ∃ g t rs, ad = some ⟨g, 0, none⟩ ∧ w.heap.size ≤ g ∧ Blk w' g (ints xs ++ rs) t)
theorem movRow_nil {w w' : World} (ad : Option Addr) (cap : Nat) : MovRow w w' (.slice ad 0 cap) [] := ⟨ad, cap, rfl, .inl rfl⟩
theorem MovRow.below {w w' w'' : World} {v : Value} {xs : List Int} (h : MovRow w w' v xs) (hb : Below w'.heap.size w' w'') : MovRow w w'' v xs := by
 obtain ⟨ad, cap, rfl, h | ⟨g, t, zs, rfl, hg, hB⟩⟩ := h
 · exact ⟨ad, cap, rfl, .inl h⟩
 · exact ⟨_, cap, rfl, .inr ⟨g, t, zs, rfl, hg, hB.below hb hB.lt⟩⟩
def IntRow (w : World) (v : Value) (xs : List Int) : Prop := ∃ ad cap, v = .slice ad xs.length cap ∧ ∀ j, j < xs.length → ∃ g, ad = some ⟨g, 0, none⟩ ∧ g < w.heap.size ∧ w.cell? ⟨g, j, none⟩ = some (.int .i64 (xs.getD j 0))
theorem MovRow.row {w w' : World} {v : Value} {xs : List Int} (h : MovRow w w' v xs) : IntRow w' v xs := by
 obtain ⟨ad, cap, rfl, h | ⟨g, t, zs, rfl, _, hb⟩⟩ := h
 · subst h
   exact ⟨ad, cap, rfl, fun j hj => by simp at hj⟩
 · exact ⟨_, cap, rfl, fun j hj => ⟨g, rfl, hb.lt, hb.cell j (ints_app xs zs j hj)⟩⟩
theorem IntRow.below {w w' : World} {v : Value} {xs : List Int} (h : IntRow w v xs) (hb : Below w.heap.size w w') : IntRow w' v xs := by
 obtain ⟨ad, cap, rfl, h⟩ := h
 exact ⟨ad, cap, rfl, fun j hj => by
  obtain ⟨g, e, hg, hc⟩ := h j hj
  exact ⟨g, e, Nat.lt_of_lt_of_le hg hb.size, (hb.cell (p := ⟨g, j, none⟩) hg).trans hc⟩⟩
def marks (k0 n : Nat) : List Int := (List.range n).map fun j => ((k0 + j : Nat) : Int)
theorem own_ints {w W : World} {v : Value} {xs : List Int} {e : TypeId} (h : W.ownsRow w.heap.size e 1 v xs.length (xs.map (Value.int .i64))) : MovRow w W v xs := by
 rcases h.2 with ⟨hv, h0⟩ | ⟨g, cap, cur, hv, hb, hh, hcap, _, hsz, htake⟩
 · subst hv
   exact ⟨none, 0, by rw [h0], .inl (List.length_eq_zero_iff.1 h0)⟩
 · subst hv
   refine ⟨_, cap, rfl, .inr ⟨g, e, (cur.toList.drop xs.length).toArray, rfl, hb, ?_⟩⟩
   have e1 : cur = ints xs ++ (cur.toList.drop xs.length).toArray := by
    apply Array.toList_inj.1
    rw [Array.toList_append]
    show cur.toList = (xs.map (Value.int .i64)) ++ cur.toList.drop xs.length
    rw [← htake]
    simp
   unfold Blk
   rw [← e1]
   exact hh
theorem info_int : (Tryz.prog.info? 3).map (fun i => (i.zero, i.size, i.bytes)) = some (some (.int .i64 0), 1, 8) := by kernel_rfl
theorem ibase {w : World} {base e size : Nat} {v : Value} {n : Nat} {xs : List Value} (h : w.ownsRow base e size v n xs) : ∀ k, v.ownBlock = some k → base ≤ k := by
 intro k hk
 rcases h.2 with ⟨rfl, _⟩ | ⟨g, cap, cur, rfl, hb, _⟩
 · cases hk
 · have : k = g := by simpa [Value.ownBlock] using hk.symm
   omega
theorem inew (W : World) (o : Obj) : (W.alloc o).heap.size = W.heap.size + 1 := by simp [World.alloc, -World.alloc_eq]
theorem iown_empty (w : World) (e : TypeId) : (w.alloc (.cells #[] e)).ownsRow w.heap.size e 1 (.slice (some ⟨w.heap.size, 0, none⟩) 0 0) 0 [] :=
 ⟨rfl, .inr ⟨w.heap.size, 0, #[], rfl, Nat.le_refl _, by simp [World.alloc, -World.alloc_eq], Nat.le_refl _, Nat.zero_le _, rfl, rfl⟩⟩
theorem iown_later {w w' : World} {base e size : Nat} {v : Value} {n : Nat} {xs : List Value} (h : w.ownsRow base e size v n xs) (hb : Below w.heap.size w w') : w'.ownsRow base e size v n xs :=
 h.kept (row := none) ⟨hb.os, hb.tape, hb.output, hb.size, fun k hk _ => hb.block k hk⟩ (Classical.em _)
structure ISt (w : World) (o : Value) (xs : List Int) (W : World) : Prop where
 row : W.ownsRow w.heap.size 3 1 o xs.length (xs.map (Value.int .i64))
 below : Below w.heap.size w W
theorem ISt.later {w : World} {o : Value} {xs : List Int} {W W' : World} (h : ISt w o xs W) (hb : Below W.heap.size W W') : ISt w o xs W' := ⟨iown_later h.row hb, h.below.trans (hb.mono h.below.size)⟩
theorem ISt.app {w : World} {o o' : Value} {xs : List Int} {W W' : World} {ob : Obj} (h : ISt w o xs W) (z : Int) (hr : W'.ownsRow w.heap.size 3 1 o' (xs.length + 1) (xs.map (Value.int .i64) ++ [.int .i64 z])) (hg : (W.alloc ob).grownBy W' o.ownBlock) : ISt w o' (xs ++ [z]) W' := by
 refine ⟨?_, (h.below.alloc h.below.size ob).grown hg (by have := h.below.size; rw [inew]; omega) (ibase h.row)⟩
 rw [List.length_append, List.map_append]
 exact hr
theorem ISt.nil (w : World) : ISt w (.slice none 0 0) [] w := ⟨World.ownsRow_nil _ _ _ _, Below.refl _ _⟩
theorem own_mono1 {w : World} {b b' e size : Nat} {v : Value} {n : Nat} {xs : List Value} (h : w.ownsRow b e size v n xs) (hb : b' ≤ b) : w.ownsRow b' e size v n xs := by
 obtain ⟨h1, h | ⟨g, cap, cur, hv, hg, hr⟩⟩ := h
 · exact ⟨h1, .inl h⟩
 · exact ⟨h1, .inr ⟨g, cap, cur, hv, Nat.le_trans hb hg, hr⟩⟩
theorem ISt.done {w w0 W : World} {o : Value} {xs : List Int} (h : ISt w o xs W) (hb : Below w0.heap.size w0 w) : MovRow w0 W o xs ∧ Below w0.heap.size w0 W :=
 ⟨own_ints (e := 3) (own_mono1 h.row hb.size), hb.trans (h.below.mono hb.size)⟩
def golden (y : Int) : Int := if 1 ≤ y ∧ y ≤ 3000 then y % 19 + 1 else 0
theorem wpList_store_row {P : Program} (w : World) {ops : Array Oper} {rest : List Oper} {o : Oper} {a : Act} {Q : Exit → Act → World → Prop}
    (hg : o.guard = none) (t : TypeId) (p v : Operand) (hop : o.op = .store t p v) (g : Nat) (old cs : Array Value) (hp : a.eval p = .pointer (some ⟨g, 0, none⟩)) (hv : a.eval v = .agg cs) (hb : Blk w g old t)
    (hi : (P.info? t).map (·.size) = some cs.size) (ho : old.size = cs.size) (h1 : cs.all (·.oneCell') = true)
    (h : wpList P ops Q rest (a.put o.dst undef) (w.setRow g cs)) : wpList P ops Q (o :: rest) a w := by
  have hrun := run_storeVar_row (P := P) w g t t old cs hb hi ho h1
  refine wpList_plain hg fun K hK' => ?_
  unfold Oper.wp
  simp [execOp, hop, hp, hv, Instr.storeAt, Instr.sureAddr, hrun, Result.andThen]
  exact hK' _ _ h
theorem Blk.setRow {w : World} {g : Nat} {old : Array Value} {t : TypeId} (h : Blk w g old t) (cs : Array Value) : Blk (w.setRow g cs) g cs t := setRow_heap w g old cs t (0, 0) h
theorem below_setRow {V W : World} (h : Below V.heap.size V W) {g : Nat} (cs : Array Value) (hb : V.heap.size ≤ g) : Below V.heap.size V (W.setRow g cs) :=
 ⟨h.os, h.tape, h.output, by rw [setRow_size]; exact h.size, fun k hk => by rw [setRow_other W g k cs (by omega)]; exact h.block k hk⟩
def RowI (W : World) (g : Nat) (xs : List Int) : Prop := ∃ cs t, Blk W g cs t ∧ ∀ j, j < xs.length → cs[j]? = some (.int .i64 (xs.getD j 0))
theorem RowI.cell {W : World} {g : Nat} {xs : List Int} (h : RowI W g xs) {j : Nat} (hj : j < xs.length) : W.cell? ⟨g, j, none⟩ = some (.int .i64 (xs.getD j 0)) := by
 obtain ⟨cs, t, hb, hc⟩ := h
 exact hb.cell j (hc j hj)
theorem RowI.thaw {W : World} {g : Nat} {xs : List Int} (h : RowI W g xs) (j : Nat) : W.frozen? ⟨g, j, none⟩ = false := by
 obtain ⟨cs, t, hb, hc⟩ := h
 exact hb.thaw j
theorem RowI.lt {W : World} {g : Nat} {xs : List Int} (h : RowI W g xs) : g < W.heap.size := by
 obtain ⟨cs, t, hb, hc⟩ := h
 exact hb.lt
theorem RowI.below {W W' : World} {g : Nat} {xs : List Int} (h : RowI W g xs) (hb : Below W.heap.size W W') : RowI W' g xs := by
 obtain ⟨cs, t, hk, hc⟩ := h
 exact ⟨cs, t, hk.below hb hk.lt, hc⟩
theorem RowI.set {W : World} {g : Nat} {xs : List Int} (h : RowI W g xs) {i : Nat} (hi : i < xs.length) (u : Int) : RowI (W.setCell ⟨g, i, none⟩ (.int .i64 u)) g (xs.set i u) := by
 obtain ⟨cs, t, hb, hc⟩ := h
 refine ⟨_, t, hb.set i _, fun j hj => ?_⟩
 rw [List.length_set] at hj
 have hs : i < cs.size := by
  by_cases k : i < cs.size
  · exact k
  · have := hc i hi
    rw [Array.getElem?_eq_none (by omega)] at this
    cases this
 by_cases e : i = j
 · subst e
   rw [Array.getElem?_setIfInBounds_self_of_lt hs]
   simp [List.getD, hi]
 · rw [Array.getElem?_setIfInBounds_ne e, hc j hj]
   simp [List.getD, List.getElem?_set_ne e]
theorem RowI.take {W : World} {g : Nat} {xs : List Int} (h : RowI W g xs) (k : Nat) : RowI W g (xs.take k) := by
 obtain ⟨cs, t, hb, hc⟩ := h
 refine ⟨cs, t, hb, fun j hj => ?_⟩
 rw [List.length_take] at hj
 rw [hc j (by omega)]
 simp [List.getD, show j < k by omega]
theorem blk_setCells {g : Nat} {t : TypeId} : ∀ (vs : List Value) (o : Nat) (w : World) (cs : Array Value), Blk w g cs t → ∃ cs', Blk (w.setCells g o vs) g cs' t ∧ ∀ j, j < o → cs'[j]? = cs[j]?
  | [], o, w, cs, h => ⟨cs, h, fun _ _ => rfl⟩
  | v :: vs, o, w, cs, h => by
   obtain ⟨cs', h1, h2⟩ := blk_setCells vs (o + 1) (w.setCell ⟨g, o, none⟩ v) _ (h.set o v)
   exact ⟨cs', h1, fun j hj => by rw [h2 j (by omega), Array.getElem?_setIfInBounds_ne (by omega)]⟩
theorem RowI.clear {W : World} {g : Nat} {xs : List Int} (h : RowI W g xs) {k : Nat} (vs : List Value) : RowI (W.setCells g k vs) g (xs.take k) := by
 obtain ⟨cs, t, hb, hc⟩ := h
 obtain ⟨cs', h1, h2⟩ := blk_setCells vs k W cs hb
 refine ⟨cs', t, h1, fun j hj => ?_⟩
 rw [List.length_take] at hj
 rw [h2 j (by omega), hc j (by omega)]
 simp [List.getD, show j < k by omega]
theorem RowI.holds {W : World} {g : Nat} {xs : List Int} (h : RowI W g xs) : Sort.Holds (Value.int .i64) W g 0 xs.toArray := fun j hj => by
 have hj' : j < xs.length := by simpa using hj
 rw [Nat.zero_add]
 refine ⟨?_, h.thaw j⟩
 rw [h.cell hj']
 simp [List.getD, hj', getElem!_pos]
theorem blk_map {w : World} {g : Nat} {cs : Array Value} {t : TypeId} (h : Blk w g cs t) (f : Array Value → Array Value) : Blk (Sort.mapBlock w g f) g (f cs) t := by
 unfold Blk at h ⊢
 simp [Sort.mapBlock, Array.getElem?_modify, h, Sort.onCells]
theorem below_map {B : Nat} {w W : World} {g : Nat} (h : Below B w W) (hg : B ≤ g) (f : Array Value → Array Value) : Below B w (Sort.mapBlock W g f) :=
 ⟨h.os, h.tape, h.output, by show _ ≤ (W.heap.modify g _).size; rw [Array.size_modify]; exact h.size, fun k hk => by
  show (W.heap.modify g _)[k]? = _
  rw [Array.getElem?_modify, if_neg (by omega)]
  exact h.block k hk⟩
theorem below_ahead {B : Nat} {w W : World} (h : Below B w W) (n : Nat) : Below B w (Sort.ahead W n) := ⟨h.os, h.tape, h.output, h.size, h.block⟩
theorem below_grow {B : Nat} {w W : World} (h : Below B w W) (hB : B ≤ W.heap.size) (os : Array Obj) : Below B w (Sort.grow W os) :=
 ⟨h.os, h.tape, h.output, Nat.le_trans h.size (by show _ ≤ (W.heap ++ os).size; rw [Array.size_append]; omega), fun k hk => by
  show (W.heap ++ os)[k]? = _
  rw [Array.getElem?_append_left (by omega)]
  exact h.block k hk⟩
theorem RowI.put {W : World} {g : Nat} {xs ys : List Int} (h : RowI W g xs) (hl : ys.length = xs.length) (n : Nat) : RowI (Sort.putRow (Value.int .i64) (Sort.ahead W n) g 0 ys.toArray) g ys := by
 have hh := Sort.cell?_putRow (Value.int .i64) (Sort.ahead W n) g 0 xs.toArray ys.toArray (Sort.holds_ahead _ _ n _ _ _ h.holds) (by simpa using hl)
 obtain ⟨cs, t, hb, _⟩ := h
 have hb' : Blk (Sort.ahead W n) g cs t := hb
 have hq := blk_map hb' (Sort.putCells (Value.int .i64) 0 ys.toArray)
 refine ⟨_, t, hq, fun j hj => ?_⟩
 have h1 := hh j (by simpa using hj)
 unfold Sort.putRow at h1
 unfold Blk at hq
 rw [Nat.zero_add] at h1
 unfold World.cell? at h1
 simp only [hq] at h1
 simpa [List.getD, hj, getElem!_pos] using h1
theorem RowI.grow {W : World} {g : Nat} {xs : List Int} (h : RowI W g xs) (os : Array Obj) : RowI (Sort.grow W os) g xs := h.below (below_grow (Below.refl _ _) (Nat.le_refl _) os)
theorem RowI.mov {w W : World} {g cap : Nat} {xs : List Int} (h : RowI W g xs) (hg : w.heap.size ≤ g) : MovRow w W (.slice (some ⟨g, 0, none⟩) xs.length cap) xs := by
 obtain ⟨cs, t, hb, hc⟩ := h
 refine ⟨_, cap, rfl, .inr ⟨g, t, (cs.toList.drop xs.length).toArray, rfl, hg, ?_⟩⟩
 have e : cs = ints xs ++ (cs.toList.drop xs.length).toArray := by
  have hs : xs.length ≤ cs.size := by
   by_cases k : xs.length ≤ cs.size
   · exact k
   · have := hc cs.size (by omega)
     rw [Array.getElem?_eq_none (Nat.le_refl _)] at this
     cases this
  apply Array.toList_inj.1
  rw [Array.toList_append]
  show cs.toList = (xs.map (Value.int .i64)) ++ cs.toList.drop xs.length
  have e1 : xs.map (Value.int .i64) = cs.toList.take xs.length := by
   apply List.ext_getElem?
   intro j
   by_cases hj : j < xs.length
   · have := hc j hj
     have h2 : cs.toList[j]? = some (.int .i64 (xs.getD j 0)) := (Array.getElem?_toList ..).trans this
     rw [List.getElem?_take, if_pos hj, h2]
     simp [List.getD, hj]
   · rw [List.getElem?_take, if_neg hj, List.getElem?_eq_none (by simp; omega)]
  rw [e1, List.take_append_drop]
 unfold Blk at hb ⊢
 rw [← e]
 exact hb
theorem own_rowI {w W : World} {v : Value} {xs : List Int} {e : TypeId} (h : W.ownsRow w.heap.size e 1 v xs.length (xs.map (Value.int .i64))) : (xs = [] ∧ v = .slice none 0 0) ∨ ∃ g cap, v = .slice (some ⟨g, 0, none⟩) xs.length cap ∧ xs.length ≤ cap ∧ w.heap.size ≤ g ∧ RowI W g xs := by
 rcases h.2 with ⟨hv, h0⟩ | ⟨g, cap, cur, hv, hb, hh, hcap, _, hsz, htake⟩
 · exact .inl ⟨List.length_eq_zero_iff.1 h0, by rw [hv]⟩
 · refine .inr ⟨g, cap, hv, hcap, hb, cur, e, hh, fun j hj => ?_⟩
   have e1 := congrArg (fun l : List Value => l[j]?) htake
   simp only [List.getElem?_take, show j < xs.length * 1 by omega, if_true, List.getElem?_map, Array.getElem?_toList] at e1
   rw [e1]
   simp [List.getD, hj]
structure Kpt (p : Int → Bool) (xs L : List Int) (i j : Nat) : Prop where
 len : L.length = xs.length
 lt : i < j
 le : j ≤ xs.length
 low : L.take i = (xs.take j).filter p
 high : L.drop j = xs.drop j
theorem Kpt.start {p : Int → Bool} {xs : List Int} {k : Nat} (hk : k < xs.length) (h0 : p (xs.getD k 0) = false) (h : ∀ j, j < k → p (xs.getD j 0) = true) : Kpt p xs xs k (k + 1) where
 len := rfl
 lt := Nat.lt_succ_self _
 le := hk
 low := by
  rw [List.take_succ_eq_append_getElem hk, List.filter_append]
  have e : xs[k] = xs.getD k 0 := by simp [List.getD, hk]
  rw [e, List.filter_cons_of_neg (by rw [h0]; simp), List.filter_nil, List.append_nil]
  refine (List.filter_eq_self.2 (fun a ha => ?_)).symm
  obtain ⟨j, hj, rfl⟩ := List.getElem_of_mem ha
  rw [List.length_take] at hj
  have := h j (by omega)
  rw [List.getElem_take]
  simpa [List.getD, show j < xs.length by omega] using this
 high := rfl
theorem Kpt.at {p : Int → Bool} {xs L : List Int} {i j : Nat} (h : Kpt p xs L i j) : L.getD j 0 = xs.getD j 0 := by
 have e := congrArg (fun l : List Int => l.getD 0 0) h.high
 simpa [List.getD] using e
theorem Kpt.keep {p : Int → Bool} {xs L : List Int} {i j : Nat} (h : Kpt p xs L i j) (hj : j < xs.length) (hp : p (xs.getD j 0) = true) : Kpt p xs (L.set i (xs.getD j 0)) (i + 1) (j + 1) where
 len := by rw [List.length_set, h.len]
 lt := by have := h.lt; omega
 le := hj
 low := by
  have hi : i < L.length := by have := h.lt; have := h.len; omega
  have e : xs[j] = xs.getD j 0 := by simp [List.getD, hj]
  rw [List.take_succ_eq_append_getElem hj, List.filter_append, ← h.low, e, List.filter_cons_of_pos hp, List.filter_nil]
  rw [List.take_succ_eq_append_getElem (by rw [List.length_set]; exact hi), List.getElem_set_self, List.take_set_of_le (Nat.le_refl _)]
 high := by
  rw [List.drop_set_of_lt (by have := h.lt; omega)]
  have e := congrArg (List.drop 1) h.high
  simpa [List.drop_drop] using e
theorem Kpt.skip {p : Int → Bool} {xs L : List Int} {i j : Nat} (h : Kpt p xs L i j) (hj : j < xs.length) (hp : p (xs.getD j 0) = false) : Kpt p xs L i (j + 1) where
 len := h.len
 lt := by have := h.lt; omega
 le := hj
 low := by
  have e : xs[j] = xs.getD j 0 := by simp [List.getD, hj]
  rw [List.take_succ_eq_append_getElem hj, List.filter_append, ← h.low, e, List.filter_cons_of_neg (by rw [hp]; simp), List.filter_nil, List.append_nil]
 high := by
  have e := congrArg (List.drop 1) h.high
  simpa [List.drop_drop] using e
theorem Kpt.done {p : Int → Bool} {xs L : List Int} {i : Nat} (h : Kpt p xs L i xs.length) : L.take i = xs.filter p ∧ i = (xs.filter p).length := by
 have e : L.take i = xs.filter p := by rw [h.low, List.take_length]
 refine ⟨e, ?_⟩
 rw [← e, List.length_take]
 have := h.lt
 have := h.len
 omega
end Go.Proofs.YtdmlhiailjnhcaaGreatDoor.ctr
