/- Closed facts: which function a method of the heap is, called through container/heap's interface. -/
import Derived.Test.YtioiaefjkmgmdaaGreatDoorHeapPush
namespace Go.Proofs.YtioiaefjkmgmdaaGreatDoor.ctr
open Go.RowKit

theorem meth_push (p : Addr) (w : World) : (Go.method 407 197 (.pointer (some p)) "Push").run Tryz.prog w = .ok (300, .pointer (some p)) w := by kernel_rfl
theorem meth_pop (p : Addr) (w : World) : (Go.method 407 197 (.pointer (some p)) "Pop").run Tryz.prog w = .ok (299, .pointer (some p)) w := by kernel_rfl
theorem meth_len0 (p : Addr) (w : World) : (Go.method 407 197 (.pointer (some p)) "Len").run Tryz.prog w = (do let v ← loadVar 199 p; pure (297, v) : Sem (FuncId × Value)).run Tryz.prog w := by kernel_rfl
theorem meth_less0 (p : Addr) (w : World) : (Go.method 407 197 (.pointer (some p)) "Less").run Tryz.prog w = (do let v ← loadVar 199 p; pure (298, v) : Sem (FuncId × Value)).run Tryz.prog w := by kernel_rfl
theorem meth_swap0 (p : Addr) (w : World) : (Go.method 407 197 (.pointer (some p)) "Swap").run Tryz.prog w = (do let v ← loadVar 199 p; pure (301, v) : Sem (FuncId × Value)).run Tryz.prog w := by kernel_rfl
theorem load_heap {p : Addr} {w : World} {a : Option Addr} {n c : Nat} (h : w.cell? p = some (.slice a n c)) : (loadVar 199 p).run Tryz.prog w = .ok (.slice a n c) w := by
  have u := Tryz.underlying199
  simp [loadVar, isAgg, underlying, u, h, Result.andThen]
theorem meth_len {p : Addr} {w : World} {a : Option Addr} {n c : Nat} (h : w.cell? p = some (.slice a n c)) : (Go.method 407 197 (.pointer (some p)) "Len").run Tryz.prog w = .ok (297, .slice a n c) w := by rw [meth_len0]; simp only [Sem.run_bind, load_heap h, Result.andThen_ok, Sem.run_pure]
theorem meth_less {p : Addr} {w : World} {a : Option Addr} {n c : Nat} (h : w.cell? p = some (.slice a n c)) : (Go.method 407 197 (.pointer (some p)) "Less").run Tryz.prog w = .ok (298, .slice a n c) w := by rw [meth_less0]; simp only [Sem.run_bind, load_heap h, Result.andThen_ok, Sem.run_pure]
theorem meth_swap {p : Addr} {w : World} {a : Option Addr} {n c : Nat} (h : w.cell? p = some (.slice a n c)) : (Go.method 407 197 (.pointer (some p)) "Swap").run Tryz.prog w = .ok (301, .slice a n c) w := by rw [meth_swap0]; simp only [Sem.run_bind, load_heap h, Result.andThen_ok, Sem.run_pure]
end Go.Proofs.YtioiaefjkmgmdaaGreatDoor.ctr
