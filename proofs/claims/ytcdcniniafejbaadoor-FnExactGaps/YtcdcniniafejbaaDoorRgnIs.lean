/- errors.Is by its contracts, where the target is the program's errNoTable: false at nil, true at a wrongReign (whose Unwrap answers that variable). Go's own text is walked. -/
import Derived.Test.YtcdcniniafejbaaDoorBlkKit
import Derived.LaidEql
import Derived.Stop.Asserts
import Derived.RowKitTokens
namespace Go.Proofs.YtcdcniniafejbaaDoor.ctr
open Go.RowKit Go.Extern.Stop Go.Stop Go.Extern

theorem isTypeOf (v : Value) (w : World) : (Extern.ReflectliteType.typeOf #[.iface 156 v]).run Tryd.prog w = .ok (.iface 99 (.agg #[.pointer (some ⟨4, 156, none⟩)])) w := by kernel_rfl
def cmpEntry : Array Value → Sem Value := Extern.ReflectliteType.method fun t => do Rtype.noPackHeld "Comparable" t; pure (.bool (← typeInfo t).comparable)
theorem isComparable (w : World) : (cmpEntry #[.agg #[.pointer (some ⟨4, 156, none⟩)]]).run Tryd.prog w = .ok (.bool true) w := by kernel_rfl
theorem isMethodComparable (v : Value) (w : World) : (Go.method 189 99 v "Comparable").run Tryd.prog w = .ok (153, v) w := by kernel_rfl
theorem isComp : (Tryd.prog.info? 156).map (·.comparable) = some true := by kernel_rfl
theorem isSize : (Tryd.prog.info? 178).map (·.size) = some 1 := by kernel_rfl
theorem noIsR (v : Value) (xT : TypeId) (w : World) : (Instr.typeAssert (.iface 88 v) xT 101 true).run Tryd.prog w = .ok (.tuple #[.nilIface, .bool false]) w := run_typeAssert_lacksB Tryd.underlying101 (by kernel_rfl) (by kernel_rfl) v xT w
theorem hasUnwrapR (v : Value) (xT : TypeId) (w : World) : (Instr.typeAssert (.iface 88 v) xT 104 true).run Tryd.prog w = .ok (.tuple #[.iface 88 v, .bool true]) w := run_typeAssert_hasB Tryd.underlying104 (by kernel_rfl) v xT w
theorem methodUnwrap (v : Value) (w : World) : (Go.method 189 88 v "Unwrap").run Tryd.prog w = .ok (149, v) w := by kernel_rfl

/-- The program's errNoTable holds a pointer of errors.New's make. -/
def Sent (w : World) (a : Addr) : Prop := w.cell? ⟨0, 0, none⟩ = some (.iface 156 (.pointer (some a)))
theorem Sent.later {w w' : World} {a : Addr} (h : Sent w a) (hb : Below w.heap.size w w') : Sent w' a := Later.at h ⟨w', hb⟩

theorem implUnwrap (z : Int) (a : Addr) (w : World) (h : Sent w a) : Calls Tryd.prog 149 #[.agg #[.int .i64 z]] w fun e w' => e = .returned (.iface 156 (.pointer (some a))) ∧ Below w.heap.size w w' := by
  have hb : Below w.heap.size w (w.alloc (.cells #[.int .i64 z] 88)) := (Below.refl _ _).alloc (Nat.le_refl _) _
  have h1 : Sent (w.alloc (.cells #[.int .i64 z] 88)) a := h.later hb
  have HB := hideP hb
  unfold Sent at h1
  clear hb h
  go_enter Tryd.func149, Tryd.ntmps149
  go_wp2
  go_ret
  exact ⟨rfl, HB.out⟩

set_option maxHeartbeats 2000000 in
theorem isWrong (z : Int) (a : Addr) (w : World) (h : Sent w a) : Calls Tryd.prog 57 #[.iface 88 (.agg #[.int .i64 z]), .iface 156 (.pointer (some a)), .bool true] w fun e w' => e = .returned (.bool true) ∧ Below w.heap.size w w' := by
  obtain ⟨i, hi, hcmp⟩ := Option.map_eq_some_iff.1 isComp
  obtain ⟨j, hj, hjs⟩ := Option.map_eq_some_iff.1 isSize
  have nW := noIsR
  have uW := hasUnwrapR
  have mU := methodUnwrap
  have heq := fun W => run_eql_iface_ptr_same (P := Tryd.prog) W a Tryd.underlying55 Tryd.underlying156 hi hcmp hj
  have hty := fun W => run_eql_iface_types (P := Tryd.prog) 88 156 (.agg #[.int .i64 z]) (.pointer (some a)) Tryd.underlying55 (by decide) W
  go_enter Tryd.func57, Tryd.ntmps57
  go_wp2
  refine wp_loop_rounds 2 ?_
  rw [rounds_succ]
  go_wp2_with fail
  refine (implUnwrap z a _ h).mono ?_
  rintro e w1 ⟨rfl, hb⟩
  have HB := hideP hb
  clear hb
  go_wp2
  rw [rounds_succ]
  go_wp2
  go_ret
  exact ⟨rfl, HB.out⟩
set_option maxHeartbeats 2000000 in
theorem implIsWrong (z : Int) (a : Addr) (w : World) (h : Sent w a) : Calls Tryd.prog 35 #[.iface 88 (.agg #[.int .i64 z]), .iface 156 (.pointer (some a))] w fun e w' => e = .returned (.bool true) ∧ Below w.heap.size w w' := by
  have h8 := @run_callFunc_extern Tryd.prog 56 _ Extern.ReflectliteType.typeOf Tryd.func56 (by kernel_rfl) (by kernel_rfl) (by kernel_rfl) (by kernel_rfl)
  have h32 := @run_callFunc_extern Tryd.prog 153 _ cmpEntry Tryd.func153 (by kernel_rfl) (by kernel_rfl) (by kernel_rfl) (by kernel_rfl)
  have tT := isTypeOf
  have cT := isComparable
  have mR := isMethodComparable
  go_enter Tryd.func35, Tryd.ntmps35
  go_wp2_with fail
  refine (isWrong z a _ h).mono ?_
  rintro e w1 ⟨rfl, hb⟩
  have HB := hideP hb
  clear hb
  go_wp2
  go_ret
  exact ⟨rfl, HB.out⟩
theorem implIsNil (b : Addr) (w : World) : Calls Tryd.prog 35 #[.nilIface, .iface 156 (.pointer (some b))] w fun e w' => e = .returned (.bool false) ∧ Below w.heap.size w w' := by
  have hn := run_eql_iface_nil_left (P := Tryd.prog) w 156 (.pointer (some b)) Tryd.underlying55
  go_enter Tryd.func35, Tryd.ntmps35
  go_wp2
  go_ret
  exact ⟨rfl, Below.refl _ _⟩
end Go.Proofs.YtcdcniniafejbaaDoor.ctr
