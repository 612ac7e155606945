/- Contract of the laws' eqReading at two readings alike: true. -/
import Derived.Test.YtaakgidndjoocaaGreatDoorRdgCtrM
namespace Go.Proofs.YtaakgidndjoocaaGreatDoor.ctr
open Go.RowKit

theorem box55 (w : World) (u v : Array Value) (t s : TypeId) : ∃ W0, W0 = (w.alloc (.cells u t)).alloc (.cells v s) ∧ Hid (∀ x : Later W0, Blk x.w w.heap.size u t) ∧ Hid (∀ x : Later W0, Blk x.w (w.heap.size + 1) v s) ∧ Hid (∀ x : Later W0, Below w.heap.size w x.w) := by
  refine ⟨_, rfl, fun x => ((Blk.new _ _ _).alloc _).later x, fun x => ?_, fun x => below_alloc (below_alloc x.below)⟩
  have h := Blk.new (w.alloc (.cells u t)) v s
  rw [World.size_alloc] at h
  exact h.later x
set_option maxHeartbeats 1000000 in
theorem eqReading (x : Rdg) (w : World) : Calls Tryz.prog 15 #[rdgV x, rdgV x] w fun e w' => e = .returned (.bool true) ∧ Below w.heap.size w w' := by
  obtain ⟨W0, hW0, H0, H1, HB⟩ := box55 w #[.int .i64 x.cal, .int .i64 x.year, .int .i64 x.sol, .int .i64 x.mon, .int .i64 x.day] #[.int .i64 x.cal, .int .i64 x.year, .int .i64 x.sol, .int .i64 x.mon, .int .i64 x.day] 29 29
  have HW0 := hideP hW0
  clear hW0
  go_enter Tryz.func15, Tryz.ntmps15
  go_wp2_with fail
  rw [← HW0.out]
  go_ret
  exact ⟨rfl, HB.out ⟨W0, Below.refl _ _⟩⟩
end Go.Proofs.YtaakgidndjoocaaGreatDoor.ctr
