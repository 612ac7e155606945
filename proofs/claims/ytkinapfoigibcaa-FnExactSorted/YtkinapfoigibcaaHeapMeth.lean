/- Closed facts: which function a method of the heap is, called through container/heap's interface. -/
import Derived.Test.YtkinapfoigibcaaHeapPush
namespace Go.Proofs.Ytkinapfoigibcaa.ctr
open Go.RowKit

theorem meth_push (p : Addr) (w : World) : (Go.method 219 56 (.pointer (some p)) "Push").run Try.prog w = .ok (78, .pointer (some p)) w := by kernel_rfl
theorem meth_pop (p : Addr) (w : World) : (Go.method 219 56 (.pointer (some p)) "Pop").run Try.prog w = .ok (77, .pointer (some p)) w := by kernel_rfl
theorem meth_len0 (p : Addr) (w : World) : (Go.method 219 56 (.pointer (some p)) "Len").run Try.prog w = (do let v ← loadVar 58 p; pure (75, v) : Sem (FuncId × Value)).run Try.prog w := by kernel_rfl
theorem meth_less0 (p : Addr) (w : World) : (Go.method 219 56 (.pointer (some p)) "Less").run Try.prog w = (do let v ← loadVar 58 p; pure (76, v) : Sem (FuncId × Value)).run Try.prog w := by kernel_rfl
theorem meth_swap0 (p : Addr) (w : World) : (Go.method 219 56 (.pointer (some p)) "Swap").run Try.prog w = (do let v ← loadVar 58 p; pure (79, v) : Sem (FuncId × Value)).run Try.prog w := by kernel_rfl
theorem load_heap {p : Addr} {w : World} {a : Option Addr} {n c : Nat} (h : w.cell? p = some (.slice a n c)) : (loadVar 58 p).run Try.prog w = .ok (.slice a n c) w := by
  have u := Try.underlying58
  simp [loadVar, isAgg, underlying, u, h, Result.andThen]
theorem meth_len {p : Addr} {w : World} {a : Option Addr} {n c : Nat} (h : w.cell? p = some (.slice a n c)) : (Go.method 219 56 (.pointer (some p)) "Len").run Try.prog w = .ok (75, .slice a n c) w := by rw [meth_len0]; simp only [Sem.run_bind, load_heap h, Result.andThen_ok, Sem.run_pure]
theorem meth_less {p : Addr} {w : World} {a : Option Addr} {n c : Nat} (h : w.cell? p = some (.slice a n c)) : (Go.method 219 56 (.pointer (some p)) "Less").run Try.prog w = .ok (76, .slice a n c) w := by rw [meth_less0]; simp only [Sem.run_bind, load_heap h, Result.andThen_ok, Sem.run_pure]
theorem meth_swap {p : Addr} {w : World} {a : Option Addr} {n c : Nat} (h : w.cell? p = some (.slice a n c)) : (Go.method 219 56 (.pointer (some p)) "Swap").run Try.prog w = .ok (79, .slice a n c) w := by rw [meth_swap0]; simp only [Sem.run_bind, load_heap h, Result.andThen_ok, Sem.run_pure]
end Go.Proofs.Ytkinapfoigibcaa.ctr
