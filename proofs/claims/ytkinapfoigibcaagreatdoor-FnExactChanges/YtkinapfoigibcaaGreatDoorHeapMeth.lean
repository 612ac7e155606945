/- Closed facts: which function a method of the heap is, called through container/heap's interface. -/
import Derived.Test.YtkinapfoigibcaaGreatDoorHeapPush
namespace Go.Proofs.YtkinapfoigibcaaGreatDoor.ctr
open Go.RowKit

theorem meth_push (p : Addr) (w : World) : (Go.method 322 168 (.pointer (some p)) "Push").run Tryz.prog w = .ok (180, .pointer (some p)) w := by kernel_rfl
theorem meth_pop (p : Addr) (w : World) : (Go.method 322 168 (.pointer (some p)) "Pop").run Tryz.prog w = .ok (179, .pointer (some p)) w := by kernel_rfl
theorem meth_len0 (p : Addr) (w : World) : (Go.method 322 168 (.pointer (some p)) "Len").run Tryz.prog w = (do let v ← loadVar 170 p; pure (177, v) : Sem (FuncId × Value)).run Tryz.prog w := by kernel_rfl
theorem meth_less0 (p : Addr) (w : World) : (Go.method 322 168 (.pointer (some p)) "Less").run Tryz.prog w = (do let v ← loadVar 170 p; pure (178, v) : Sem (FuncId × Value)).run Tryz.prog w := by kernel_rfl
theorem meth_swap0 (p : Addr) (w : World) : (Go.method 322 168 (.pointer (some p)) "Swap").run Tryz.prog w = (do let v ← loadVar 170 p; pure (181, v) : Sem (FuncId × Value)).run Tryz.prog w := by kernel_rfl
theorem load_heap {p : Addr} {w : World} {a : Option Addr} {n c : Nat} (h : w.cell? p = some (.slice a n c)) : (loadVar 170 p).run Tryz.prog w = .ok (.slice a n c) w := by
  have u := Tryz.underlying170
  simp [loadVar, isAgg, underlying, u, h, Result.andThen]
theorem meth_len {p : Addr} {w : World} {a : Option Addr} {n c : Nat} (h : w.cell? p = some (.slice a n c)) : (Go.method 322 168 (.pointer (some p)) "Len").run Tryz.prog w = .ok (177, .slice a n c) w := by rw [meth_len0]; simp only [Sem.run_bind, load_heap h, Result.andThen_ok, Sem.run_pure]
theorem meth_less {p : Addr} {w : World} {a : Option Addr} {n c : Nat} (h : w.cell? p = some (.slice a n c)) : (Go.method 322 168 (.pointer (some p)) "Less").run Tryz.prog w = .ok (178, .slice a n c) w := by rw [meth_less0]; simp only [Sem.run_bind, load_heap h, Result.andThen_ok, Sem.run_pure]
theorem meth_swap {p : Addr} {w : World} {a : Option Addr} {n c : Nat} (h : w.cell? p = some (.slice a n c)) : (Go.method 322 168 (.pointer (some p)) "Swap").run Tryz.prog w = .ok (181, .slice a n c) w := by rw [meth_swap0]; simp only [Sem.run_bind, load_heap h, Result.andThen_ok, Sem.run_pure]
end Go.Proofs.YtkinapfoigibcaaGreatDoor.ctr
