/- errors.Is by its contracts, where the target is the program's errNoTable: false at nil, true at a wrongReign (whose Unwrap answers that variable). Go's own text is walked. -/
import Derived.Test.YtaakgidndjoocaaGreatDoorBlkKitM
import Derived.LaidEql
import Derived.Stop.Asserts
import Derived.RowKitTokens
namespace Go.Proofs.YtaakgidndjoocaaGreatDoor.ctr
open Go.RowKit Go.Extern.Stop Go.Stop Go.Extern

theorem isTypeOf (v : Value) (w : World) : (Extern.ReflectliteType.typeOf #[.iface 355 v]).run Tryz.prog w = .ok (.iface 273 (.agg #[.pointer (some ⟨10, 355, none⟩)])) w := by kernel_rfl
def cmpEntry : Array Value → Sem Value := Extern.ReflectliteType.method fun t => do Rtype.noPackHeld "Comparable" t; pure (.bool (← typeInfo t).comparable)
theorem isComparable (w : World) : (cmpEntry #[.agg #[.pointer (some ⟨10, 355, none⟩)]]).run Tryz.prog w = .ok (.bool true) w := by kernel_rfl
theorem isMethodComparable (v : Value) (w : World) : (Go.method 387 273 v "Comparable").run Tryz.prog w = .ok (384, v) w := by kernel_rfl
theorem isComp : (Tryz.prog.info? 355).map (·.comparable) = some true := by kernel_rfl
theorem isSize : (Tryz.prog.info? 375).map (·.size) = some 1 := by kernel_rfl
theorem noIsR (v : Value) (xT : TypeId) (w : World) : (Instr.typeAssert (.iface 227 v) xT 275 true).run Tryz.prog w = .ok (.tuple #[.nilIface, .bool false]) w := run_typeAssert_lacksB Tryz.underlying275 (by kernel_rfl) (by kernel_rfl) v xT w
theorem hasUnwrapR (v : Value) (xT : TypeId) (w : World) : (Instr.typeAssert (.iface 227 v) xT 278 true).run Tryz.prog w = .ok (.tuple #[.iface 227 v, .bool true]) w := run_typeAssert_hasB Tryz.underlying278 (by kernel_rfl) v xT w
theorem methodUnwrap (v : Value) (w : World) : (Go.method 387 227 v "Unwrap").run Tryz.prog w = .ok (377, v) w := by kernel_rfl

/-- The program's errNoTable holds a pointer of errors.New's make. -/
def Sent (w : World) (a : Addr) : Prop := w.cell? ⟨0, 0, none⟩ = some (.iface 355 (.pointer (some a)))
theorem Sent.later {w w' : World} {a : Addr} (h : Sent w a) (hb : Below w.heap.size w w') : Sent w' a := Later.at h ⟨w', hb⟩

theorem implUnwrap (z : Int) (a : Addr) (w : World) (h : Sent w a) : Calls Tryz.prog 377 #[.agg #[.int .i64 z]] w fun e w' => e = .returned (.iface 355 (.pointer (some a))) ∧ Below w.heap.size w w' := by
  have hb : Below w.heap.size w (w.alloc (.cells #[.int .i64 z] 227)) := (Below.refl _ _).alloc (Nat.le_refl _) _
  have h1 : Sent (w.alloc (.cells #[.int .i64 z] 227)) a := h.later hb
  have HB := hideP hb
  unfold Sent at h1
  clear hb h
  go_enter Tryz.func377, Tryz.ntmps377
  go_wp2
  go_ret
  exact ⟨rfl, HB.out⟩

set_option maxHeartbeats 2000000 in
theorem isWrong (z : Int) (a : Addr) (w : World) (h : Sent w a) : Calls Tryz.prog 201 #[.iface 227 (.agg #[.int .i64 z]), .iface 355 (.pointer (some a)), .bool true] w fun e w' => e = .returned (.bool true) ∧ Below w.heap.size w w' := by
  obtain ⟨i, hi, hcmp⟩ := Option.map_eq_some_iff.1 isComp
  obtain ⟨j, hj, hjs⟩ := Option.map_eq_some_iff.1 isSize
  have nW := noIsR
  have uW := hasUnwrapR
  have mU := methodUnwrap
  have heq := fun W => run_eql_iface_ptr_same (P := Tryz.prog) W a Tryz.underlying174 Tryz.underlying355 hi hcmp hj
  have hty := fun W => run_eql_iface_types (P := Tryz.prog) 227 355 (.agg #[.int .i64 z]) (.pointer (some a)) Tryz.underlying174 (by decide) W
  go_enter Tryz.func201, Tryz.ntmps201
  go_wp2
  refine wp_loop_rounds 2 ?_
  rw [rounds_succ]
  go_wp2_with fail
  refine (implUnwrap z a _ h).mono ?_
  rintro e w1 ⟨rfl, hb⟩
  have HB := hideP hb
  clear hb
  go_wp2
  rw [rounds_succ]
  go_wp2
  go_ret
  exact ⟨rfl, HB.out⟩
set_option maxHeartbeats 2000000 in
theorem implIsWrong (z : Int) (a : Addr) (w : World) (h : Sent w a) : Calls Tryz.prog 146 #[.iface 227 (.agg #[.int .i64 z]), .iface 355 (.pointer (some a))] w fun e w' => e = .returned (.bool true) ∧ Below w.heap.size w w' := by
  have h8 := @run_callFunc_extern Tryz.prog 200 _ Extern.ReflectliteType.typeOf Tryz.func200 (by kernel_rfl) (by kernel_rfl) (by kernel_rfl) (by kernel_rfl)
  have h32 := @run_callFunc_extern Tryz.prog 384 _ cmpEntry Tryz.func384 (by kernel_rfl) (by kernel_rfl) (by kernel_rfl) (by kernel_rfl)
  have tT := isTypeOf
  have cT := isComparable
  have mR := isMethodComparable
  go_enter Tryz.func146, Tryz.ntmps146
  go_wp2_with fail
  refine (isWrong z a _ h).mono ?_
  rintro e w1 ⟨rfl, hb⟩
  have HB := hideP hb
  clear hb
  go_wp2
  go_ret
  exact ⟨rfl, HB.out⟩
theorem implIsNil (b : Addr) (w : World) : Calls Tryz.prog 146 #[.nilIface, .iface 355 (.pointer (some b))] w fun e w' => e = .returned (.bool false) ∧ Below w.heap.size w w' := by
  have hn := run_eql_iface_nil_left (P := Tryz.prog) w 355 (.pointer (some b)) Tryz.underlying174
  go_enter Tryz.func146, Tryz.ntmps146
  go_wp2
  go_ret
  exact ⟨rfl, Below.refl _ _⟩
end Go.Proofs.YtaakgidndjoocaaGreatDoor.ctr
