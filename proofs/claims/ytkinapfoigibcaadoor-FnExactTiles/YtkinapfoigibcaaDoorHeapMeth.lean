/- Closed facts: which function a method of the heap is, called through container/heap's interface. -/
import Derived.Test.YtkinapfoigibcaaDoorHeapPush
namespace Go.Proofs.YtkinapfoigibcaaDoor.ctr
open Go.RowKit

theorem meth_push (p : Addr) (w : World) : (Go.method 255 89 (.pointer (some p)) "Push").run Tryd.prog w = .ok (108, .pointer (some p)) w := by kernel_rfl
theorem meth_pop (p : Addr) (w : World) : (Go.method 255 89 (.pointer (some p)) "Pop").run Tryd.prog w = .ok (107, .pointer (some p)) w := by kernel_rfl
theorem meth_len0 (p : Addr) (w : World) : (Go.method 255 89 (.pointer (some p)) "Len").run Tryd.prog w = (do let v ← loadVar 91 p; pure (105, v) : Sem (FuncId × Value)).run Tryd.prog w := by kernel_rfl
theorem meth_less0 (p : Addr) (w : World) : (Go.method 255 89 (.pointer (some p)) "Less").run Tryd.prog w = (do let v ← loadVar 91 p; pure (106, v) : Sem (FuncId × Value)).run Tryd.prog w := by kernel_rfl
theorem meth_swap0 (p : Addr) (w : World) : (Go.method 255 89 (.pointer (some p)) "Swap").run Tryd.prog w = (do let v ← loadVar 91 p; pure (109, v) : Sem (FuncId × Value)).run Tryd.prog w := by kernel_rfl
theorem load_heap {p : Addr} {w : World} {a : Option Addr} {n c : Nat} (h : w.cell? p = some (.slice a n c)) : (loadVar 91 p).run Tryd.prog w = .ok (.slice a n c) w := by
  have u := Tryd.underlying91
  simp [loadVar, isAgg, underlying, u, h, Result.andThen]
theorem meth_len {p : Addr} {w : World} {a : Option Addr} {n c : Nat} (h : w.cell? p = some (.slice a n c)) : (Go.method 255 89 (.pointer (some p)) "Len").run Tryd.prog w = .ok (105, .slice a n c) w := by rw [meth_len0]; simp only [Sem.run_bind, load_heap h, Result.andThen_ok, Sem.run_pure]
theorem meth_less {p : Addr} {w : World} {a : Option Addr} {n c : Nat} (h : w.cell? p = some (.slice a n c)) : (Go.method 255 89 (.pointer (some p)) "Less").run Tryd.prog w = .ok (106, .slice a n c) w := by rw [meth_less0]; simp only [Sem.run_bind, load_heap h, Result.andThen_ok, Sem.run_pure]
theorem meth_swap {p : Addr} {w : World} {a : Option Addr} {n c : Nat} (h : w.cell? p = some (.slice a n c)) : (Go.method 255 89 (.pointer (some p)) "Swap").run Tryd.prog w = .ok (109, .slice a n c) w := by rw [meth_swap0]; simp only [Sem.run_bind, load_heap h, Result.andThen_ok, Sem.run_pure]
end Go.Proofs.YtkinapfoigibcaaDoor.ctr
