/- errors.Is by its contracts, where the target is the program's errNoTable: false at nil, true at a wrongReign (whose Unwrap answers that variable). Go's own text is walked. -/
import Derived.Test.YtchhdoipkimbgaaGreatDoorBlkKitM
import Derived.LaidEql
import Derived.Stop.Asserts
import Derived.RowKitTokens
namespace Go.Proofs.YtchhdoipkimbgaaGreatDoor.ctr
open Go.RowKit Go.Extern.Stop Go.Stop Go.Extern

theorem isTypeOf (v : Value) (w : World) : (Extern.ReflectliteType.typeOf #[.iface 254 v]).run Tryz.prog w = .ok (.iface 204 (.agg #[.pointer (some ⟨12, 254, none⟩)])) w := by kernel_rfl
def cmpEntry : Array Value → Sem Value := Extern.ReflectliteType.method fun t => do Rtype.noPackHeld "Comparable" t; pure (.bool (← typeInfo t).comparable)
theorem isComparable (w : World) : (cmpEntry #[.agg #[.pointer (some ⟨12, 254, none⟩)]]).run Tryz.prog w = .ok (.bool true) w := by kernel_rfl
theorem isMethodComparable (v : Value) (w : World) : (Go.method 286 204 v "Comparable").run Tryz.prog w = .ok (296, v) w := by kernel_rfl
theorem isComp : (Tryz.prog.info? 254).map (·.comparable) = some true := by kernel_rfl
theorem isSize : (Tryz.prog.info? 274).map (·.size) = some 1 := by kernel_rfl
theorem noIsR (v : Value) (xT : TypeId) (w : World) : (Instr.typeAssert (.iface 164 v) xT 206 true).run Tryz.prog w = .ok (.tuple #[.nilIface, .bool false]) w := run_typeAssert_lacksB Tryz.underlying206 (by kernel_rfl) (by kernel_rfl) v xT w
theorem hasUnwrapR (v : Value) (xT : TypeId) (w : World) : (Instr.typeAssert (.iface 164 v) xT 209 true).run Tryz.prog w = .ok (.tuple #[.iface 164 v, .bool true]) w := run_typeAssert_hasB Tryz.underlying209 (by kernel_rfl) v xT w
theorem methodUnwrap (v : Value) (w : World) : (Go.method 286 164 v "Unwrap").run Tryz.prog w = .ok (283, v) w := by kernel_rfl

/-- The program's errNoTable holds a pointer of errors.New's make. -/
def Sent (w : World) (a : Addr) : Prop := w.cell? ⟨1, 0, none⟩ = some (.iface 254 (.pointer (some a)))
theorem Sent.later {w w' : World} {a : Addr} (h : Sent w a) (hb : Below w.heap.size w w') : Sent w' a := Later.at h ⟨w', hb⟩

theorem implUnwrap (z : Int) (a : Addr) (w : World) (h : Sent w a) : Calls Tryz.prog 283 #[.agg #[.int .i64 z]] w fun e w' => e = .returned (.iface 254 (.pointer (some a))) ∧ Below w.heap.size w w' := by
  have hb : Below w.heap.size w (w.alloc (.cells #[.int .i64 z] 164)) := (Below.refl _ _).alloc (Nat.le_refl _) _
  have h1 : Sent (w.alloc (.cells #[.int .i64 z] 164)) a := h.later hb
  have HB := hideP hb
  unfold Sent at h1
  clear hb h
  go_enter Tryz.func283, Tryz.ntmps283
  go_wp2
  go_ret
  exact ⟨rfl, HB.out⟩

set_option maxHeartbeats 2000000 in
theorem isWrong (z : Int) (a : Addr) (w : World) (h : Sent w a) : Calls Tryz.prog 181 #[.iface 164 (.agg #[.int .i64 z]), .iface 254 (.pointer (some a)), .bool true] w fun e w' => e = .returned (.bool true) ∧ Below w.heap.size w w' := by
  obtain ⟨i, hi, hcmp⟩ := Option.map_eq_some_iff.1 isComp
  obtain ⟨j, hj, hjs⟩ := Option.map_eq_some_iff.1 isSize
  have nW := noIsR
  have uW := hasUnwrapR
  have mU := methodUnwrap
  have heq := fun W => run_eql_iface_ptr_same (P := Tryz.prog) W a Tryz.underlying127 Tryz.underlying254 hi hcmp hj
  have hty := fun W => run_eql_iface_types (P := Tryz.prog) 164 254 (.agg #[.int .i64 z]) (.pointer (some a)) Tryz.underlying127 (by decide) W
  go_enter Tryz.func181, Tryz.ntmps181
  go_wp2
  refine wp_loop_rounds 2 ?_
  rw [rounds_succ]
  go_wp2_with fail
  refine (implUnwrap z a _ h).mono ?_
  rintro e w1 ⟨rfl, hb⟩
  have HB := hideP hb
  clear hb
  go_wp2
  rw [rounds_succ]
  go_wp2
  go_ret
  exact ⟨rfl, HB.out⟩
set_option maxHeartbeats 2000000 in
theorem implIsWrong (z : Int) (a : Addr) (w : World) (h : Sent w a) : Calls Tryz.prog 142 #[.iface 164 (.agg #[.int .i64 z]), .iface 254 (.pointer (some a))] w fun e w' => e = .returned (.bool true) ∧ Below w.heap.size w w' := by
  have h8 := @run_callFunc_extern Tryz.prog 180 _ Extern.ReflectliteType.typeOf Tryz.func180 (by kernel_rfl) (by kernel_rfl) (by kernel_rfl) (by kernel_rfl)
  have h32 := @run_callFunc_extern Tryz.prog 296 _ cmpEntry Tryz.func296 (by kernel_rfl) (by kernel_rfl) (by kernel_rfl) (by kernel_rfl)
  have tT := isTypeOf
  have cT := isComparable
  have mR := isMethodComparable
  go_enter Tryz.func142, Tryz.ntmps142
  go_wp2_with fail
  refine (isWrong z a _ h).mono ?_
  rintro e w1 ⟨rfl, hb⟩
  have HB := hideP hb
  clear hb
  go_wp2
  go_ret
  exact ⟨rfl, HB.out⟩
theorem implIsNil (b : Addr) (w : World) : Calls Tryz.prog 142 #[.nilIface, .iface 254 (.pointer (some b))] w fun e w' => e = .returned (.bool false) ∧ Below w.heap.size w w' := by
  have hn := run_eql_iface_nil_left (P := Tryz.prog) w 254 (.pointer (some b)) Tryz.underlying127
  go_enter Tryz.func142, Tryz.ntmps142
  go_wp2
  go_ret
  exact ⟨rfl, Below.refl _ _⟩
end Go.Proofs.YtchhdoipkimbgaaGreatDoor.ctr
