/- Plain facts on a regime as it is drawn: segments that stand one behind the other tile, and such a regime is right. Readings (a struct of five ints), and contracts of both Plain: the date of a reading's calendar, year, month and day, and whether there is one. Contracts of the golden number: the model's and the program's Golden answer the plain function at every int. -/
import Derived.Test.YtdgolaaheakfoaaGreatDoorJnSau
import Derived.Test.YtdgolaaheakfoaaGreatDoorJnSar
import Derived.Test.YtdgolaaheakfoaaGreatDoorJnSaa
import Derived.Test.YtdgolaaheakfoaaGreatDoorIntRowS
namespace Go.Proofs.YtdgolaaheakfoaaGreatDoor.ctr
open Go.RowKit
theorem tagS_mem : ∀ (l : List Seg) (b : Nat) (x : PSeg), x ∈ tagS l b → x.s ∈ l
  | [], b, x, h => by simp [tagS] at h
  | s :: l, b, x, h => by
    simp only [tagS, List.mem_cons] at h
    rcases h with rfl | h
    · exact List.mem_cons_self
    · exact List.mem_cons_of_mem _ (tagS_mem l (b + 1) x h)
theorem tagS_map : ∀ (l : List Seg) (b : Nat), (tagS l b).map PSeg.s = l
  | [], b => rfl
  | s :: l, b => by simp [tagS, tagS_map l (b + 1)]
end Go.Proofs.YtdgolaaheakfoaaGreatDoor.ctr
namespace Go.Proofs.YtdgolaaheakfoaaGreatDoor.ctr
open Go.RowKit
structure Rdg where
  cal : Int
  year : Int
  sol : Int
  mon : Int
  day : Int
deriving DecidableEq
abbrev rdgV (x : Rdg) : Value := .agg #[.int .i64 x.cal, .int .i64 x.year, .int .i64 x.sol, .int .i64 x.mon, .int .i64 x.day]
def plainR (c : Int) (x : Rdg) : Value := if dateOk c x.sol x.mon x.day = true then .tuple #[.agg #[.int .i64 c, .int .i64 x.sol, .int .i64 x.mon, .int .i64 x.day], .bool true] else .tuple #[.agg #[.int .i64 0, .int .i64 0, .int .i64 0, .int .i64 0], .bool false]
theorem box3 (w : World) (o : Obj) (u v : Array Value) (t s : TypeId) : ∃ W0, W0 = ((w.alloc o).alloc (.cells u t)).alloc (.cells v s) ∧ Hid (∀ x : Later W0, Blk x.w (w.heap.size + 1) u t) ∧ Hid (∀ x : Later W0, Blk x.w (w.heap.size + 2) v s) ∧ Hid (∀ x : Later W0, Below w.heap.size w x.w) := by
  refine ⟨_, rfl, fun x => ?_, fun x => ?_, fun x => ?_⟩
  · have h := Blk.new (w.alloc o) u t
    rw [World.size_alloc] at h
    exact (h.alloc _).later x
  · have h := Blk.new ((w.alloc o).alloc (.cells u t)) v s
    rw [World.size_alloc, World.size_alloc] at h
    exact h.later x
  · exact below_alloc (below_alloc (below_alloc x.below))
theorem box2 (w : World) (o : Obj) (u : Array Value) (t : TypeId) : ∃ W0, W0 = (w.alloc o).alloc (.cells u t) ∧ Hid (∀ x : Later W0, Blk x.w (w.heap.size + 1) u t) ∧ Hid (∀ x : Later W0, Below w.heap.size w x.w) := by
  refine ⟨_, rfl, fun x => ?_, fun x => ?_⟩
  · have h := Blk.new (w.alloc o) u t
    rw [World.size_alloc] at h
    exact h.later x
  · exact below_alloc (below_alloc x.below)
set_option maxHeartbeats 1000000 in
theorem implSolarDate (c : Int) (x : Rdg) (w : World) (hT : Tab w) : Calls Tryz.prog 59 #[.int .i64 c, rdgV x] w fun e w' => e = .returned (plainR c x) ∧ Below w.heap.size w w' := by
  obtain ⟨W0, hW0, H1, H2, HB⟩ := box3 w (.cells #[.int .i64 x.cal, .int .i64 x.year, .int .i64 x.sol, .int .i64 x.mon, .int .i64 x.day] 76) #[.int .i64 0, .int .i64 0, .int .i64 0, .int .i64 0] #[.int .i64 (c), .int .i64 x.sol, .int .i64 x.mon, .int .i64 x.day] 92 92
  have HW0 := hideP hW0
  have KO : Calls Tryz.prog 109 #[.agg #[.int .i64 c, .int .i64 x.sol, .int .i64 x.mon, .int .i64 x.day]] W0 fun e w' => e = .returned (.bool (dateOk c x.sol x.mon x.day)) ∧ Below W0.heap.size W0 w' := implDateOk c x.sol x.mon x.day W0 (hT.later (HB.out ⟨W0, Below.refl _ _⟩))
  have u0 : ∀ z : Later W0, z.w.cell? ⟨w.heap.size + 1, 0, none⟩ = some (.int .i64 0) := fun z => (H1.out z).cell 0 rfl
  have u1 : ∀ z : Later W0, z.w.cell? ⟨w.heap.size + 1, 1, none⟩ = some (.int .i64 0) := fun z => (H1.out z).cell 1 rfl
  have u2 : ∀ z : Later W0, z.w.cell? ⟨w.heap.size + 1, 2, none⟩ = some (.int .i64 0) := fun z => (H1.out z).cell 2 rfl
  have u3 : ∀ z : Later W0, z.w.cell? ⟨w.heap.size + 1, 3, none⟩ = some (.int .i64 0) := fun z => (H1.out z).cell 3 rfl
  have c0 : ∀ z : Later W0, z.w.cell? ⟨w.heap.size + 2, 0, none⟩ = some (.int .i64 c) := fun z => (H2.out z).cell 0 rfl
  have c1 : ∀ z : Later W0, z.w.cell? ⟨w.heap.size + 2, 1, none⟩ = some (.int .i64 x.sol) := fun z => (H2.out z).cell 1 rfl
  have c2 : ∀ z : Later W0, z.w.cell? ⟨w.heap.size + 2, 2, none⟩ = some (.int .i64 x.mon) := fun z => (H2.out z).cell 2 rfl
  have c3 : ∀ z : Later W0, z.w.cell? ⟨w.heap.size + 2, 3, none⟩ = some (.int .i64 x.day) := fun z => (H2.out z).cell 3 rfl
  have f0 : ∀ z : Later W0, z.w.frozen? ⟨w.heap.size + 1, 0, none⟩ = false := fun z => (H1.out z).thaw 0
  have f1 : ∀ z : Later W0, z.w.frozen? ⟨w.heap.size + 1, 1, none⟩ = false := fun z => (H1.out z).thaw 1
  have f2 : ∀ z : Later W0, z.w.frozen? ⟨w.heap.size + 1, 2, none⟩ = false := fun z => (H1.out z).thaw 2
  have f3 : ∀ z : Later W0, z.w.frozen? ⟨w.heap.size + 1, 3, none⟩ = false := fun z => (H1.out z).thaw 3
  clear hW0 hT
  unfold plainR
  generalize dateOk c x.sol x.mon x.day = b at *
  cases b
  · rw [if_neg (by simp)]
    go_enter Tryz.func59, Tryz.ntmps59
    go_wp2_with fail
    rw [← HW0.out]
    refine KO.mono ?_
    rintro e w1 ⟨rfl, hb⟩
    obtain ⟨x1, rfl⟩ := Later.of hb
    clear hb
    go_wp2
    obtain ⟨W9, e9⟩ : ∃ W9, W9 = (((x1.w.setCell ⟨w.heap.size + 1, 0, none⟩ (.int .i64 0)).setCell ⟨w.heap.size + 1, 1, none⟩ (.int .i64 0)).setCell ⟨w.heap.size + 1, 2, none⟩ (.int .i64 0)).setCell ⟨w.heap.size + 1, 3, none⟩ (.int .i64 0) := ⟨_, rfl⟩
    have Z9 : Blk W9 (w.heap.size + 1) #[.int .i64 0, .int .i64 0, .int .i64 0, .int .i64 0] 92 := by rw [e9]; exact (((((H1.out x1).set 0 _).set 1 _).set 2 _).set 3 _)
    have B9 : Below w.heap.size w W9 := by rw [e9]; exact (Below.setCell (Below.setCell (Below.setCell (Below.setCell (HB.out x1) (p := ⟨w.heap.size + 1, 0, none⟩) (show w.heap.size ≤ w.heap.size + 1 by omega) _) (p := ⟨w.heap.size + 1, 1, none⟩) (show w.heap.size ≤ w.heap.size + 1 by omega) _) (p := ⟨w.heap.size + 1, 2, none⟩) (show w.heap.size ≤ w.heap.size + 1 by omega) _) (p := ⟨w.heap.size + 1, 3, none⟩) (show w.heap.size ≤ w.heap.size + 1 by omega) _)
    rw [← e9]
    clear e9
    have q0 : W9.cell? ⟨w.heap.size + 1, 0, none⟩ = some (.int .i64 0) := Z9.cell 0 rfl
    have q1 : W9.cell? ⟨w.heap.size + 1, 1, none⟩ = some (.int .i64 0) := Z9.cell 1 rfl
    have q2 : W9.cell? ⟨w.heap.size + 1, 2, none⟩ = some (.int .i64 0) := Z9.cell 2 rfl
    have q3 : W9.cell? ⟨w.heap.size + 1, 3, none⟩ = some (.int .i64 0) := Z9.cell 3 rfl
    exact bodyPost_ret (by simp [results, Tryz.results59, go_sem, q0, q1, q2, q3]; try rfl) rfl ⟨rfl, B9⟩
  · rw [if_pos rfl]
    go_enter Tryz.func59, Tryz.ntmps59
    go_wp2_with fail
    rw [← HW0.out]
    refine KO.mono ?_
    rintro e w1 ⟨rfl, hb⟩
    obtain ⟨x1, rfl⟩ := Later.of hb
    clear hb
    go_wp2
    obtain ⟨W9, e9⟩ : ∃ W9, W9 = (((x1.w.setCell ⟨w.heap.size + 1, 0, none⟩ (.int .i64 c)).setCell ⟨w.heap.size + 1, 1, none⟩ (.int .i64 x.sol)).setCell ⟨w.heap.size + 1, 2, none⟩ (.int .i64 x.mon)).setCell ⟨w.heap.size + 1, 3, none⟩ (.int .i64 x.day) := ⟨_, rfl⟩
    have Z9 : Blk W9 (w.heap.size + 1) #[.int .i64 c, .int .i64 x.sol, .int .i64 x.mon, .int .i64 x.day] 92 := by rw [e9]; exact (((((H1.out x1).set 0 _).set 1 _).set 2 _).set 3 _)
    have B9 : Below w.heap.size w W9 := by rw [e9]; exact (Below.setCell (Below.setCell (Below.setCell (Below.setCell (HB.out x1) (p := ⟨w.heap.size + 1, 0, none⟩) (show w.heap.size ≤ w.heap.size + 1 by omega) _) (p := ⟨w.heap.size + 1, 1, none⟩) (show w.heap.size ≤ w.heap.size + 1 by omega) _) (p := ⟨w.heap.size + 1, 2, none⟩) (show w.heap.size ≤ w.heap.size + 1 by omega) _) (p := ⟨w.heap.size + 1, 3, none⟩) (show w.heap.size ≤ w.heap.size + 1 by omega) _)
    rw [← e9]
    clear e9
    have q0 : W9.cell? ⟨w.heap.size + 1, 0, none⟩ = some (.int .i64 c) := Z9.cell 0 rfl
    have q1 : W9.cell? ⟨w.heap.size + 1, 1, none⟩ = some (.int .i64 x.sol) := Z9.cell 1 rfl
    have q2 : W9.cell? ⟨w.heap.size + 1, 2, none⟩ = some (.int .i64 x.mon) := Z9.cell 2 rfl
    have q3 : W9.cell? ⟨w.heap.size + 1, 3, none⟩ = some (.int .i64 x.day) := Z9.cell 3 rfl
    exact bodyPost_ret (by simp [results, Tryz.results59, go_sem, q0, q1, q2, q3]; try rfl) rfl ⟨rfl, B9⟩
set_option maxHeartbeats 1000000 in
theorem implPlain (x : Rdg) (w : World) (hT : Tab w) : Calls Tryz.prog 60 #[rdgV x] w fun e w' => e = .returned (plainR x.cal x) ∧ Below w.heap.size w w' := by
  obtain ⟨W0, hW0, H1, HB⟩ := box2 w (.cells #[.int .i64 x.cal, .int .i64 x.year, .int .i64 x.sol, .int .i64 x.mon, .int .i64 x.day] 76) #[.int .i64 0, .int .i64 0, .int .i64 0, .int .i64 0] 92
  have HW0 := hideP hW0
  have KO : Calls Tryz.prog 59 #[.int .i64 x.cal, rdgV x] W0 fun e w' => e = .returned (plainR x.cal x) ∧ Below W0.heap.size W0 w' := implSolarDate x.cal x W0 (hT.later (HB.out ⟨W0, Below.refl _ _⟩))
  obtain ⟨a, b, m, d, ok, h⟩ : ∃ a b m d ok, plainR x.cal x = .tuple #[.agg #[.int .i64 a, .int .i64 b, .int .i64 m, .int .i64 d], .bool ok] := by
    unfold plainR
    split
    · exact ⟨_, _, _, _, _, rfl⟩
    · exact ⟨_, _, _, _, _, rfl⟩
  rw [h] at KO ⊢
  have u0 : ∀ z : Later W0, z.w.cell? ⟨w.heap.size + 1, 0, none⟩ = some (.int .i64 0) := fun z => (H1.out z).cell 0 rfl
  have u1 : ∀ z : Later W0, z.w.cell? ⟨w.heap.size + 1, 1, none⟩ = some (.int .i64 0) := fun z => (H1.out z).cell 1 rfl
  have u2 : ∀ z : Later W0, z.w.cell? ⟨w.heap.size + 1, 2, none⟩ = some (.int .i64 0) := fun z => (H1.out z).cell 2 rfl
  have u3 : ∀ z : Later W0, z.w.cell? ⟨w.heap.size + 1, 3, none⟩ = some (.int .i64 0) := fun z => (H1.out z).cell 3 rfl
  have f0 : ∀ z : Later W0, z.w.frozen? ⟨w.heap.size + 1, 0, none⟩ = false := fun z => (H1.out z).thaw 0
  have f1 : ∀ z : Later W0, z.w.frozen? ⟨w.heap.size + 1, 1, none⟩ = false := fun z => (H1.out z).thaw 1
  have f2 : ∀ z : Later W0, z.w.frozen? ⟨w.heap.size + 1, 2, none⟩ = false := fun z => (H1.out z).thaw 2
  have f3 : ∀ z : Later W0, z.w.frozen? ⟨w.heap.size + 1, 3, none⟩ = false := fun z => (H1.out z).thaw 3
  clear hW0 hT h
  go_enter Tryz.func60, Tryz.ntmps60
  go_wp2_with fail
  rw [← HW0.out]
  refine KO.mono ?_
  rintro e w1 ⟨rfl, hb⟩
  obtain ⟨x1, rfl⟩ := Later.of hb
  clear hb
  go_wp2
  obtain ⟨W9, e9⟩ : ∃ W9, W9 = (((x1.w.setCell ⟨w.heap.size + 1, 0, none⟩ (.int .i64 a)).setCell ⟨w.heap.size + 1, 1, none⟩ (.int .i64 b)).setCell ⟨w.heap.size + 1, 2, none⟩ (.int .i64 m)).setCell ⟨w.heap.size + 1, 3, none⟩ (.int .i64 d) := ⟨_, rfl⟩
  have Z9 : Blk W9 (w.heap.size + 1) #[.int .i64 a, .int .i64 b, .int .i64 m, .int .i64 d] 92 := by rw [e9]; exact (((((H1.out x1).set 0 _).set 1 _).set 2 _).set 3 _)
  have B9 : Below w.heap.size w W9 := by rw [e9]; exact (Below.setCell (Below.setCell (Below.setCell (Below.setCell (HB.out x1) (p := ⟨w.heap.size + 1, 0, none⟩) (show w.heap.size ≤ w.heap.size + 1 by omega) _) (p := ⟨w.heap.size + 1, 1, none⟩) (show w.heap.size ≤ w.heap.size + 1 by omega) _) (p := ⟨w.heap.size + 1, 2, none⟩) (show w.heap.size ≤ w.heap.size + 1 by omega) _) (p := ⟨w.heap.size + 1, 3, none⟩) (show w.heap.size ≤ w.heap.size + 1 by omega) _)
  rw [← e9]
  clear e9
  have q0 : W9.cell? ⟨w.heap.size + 1, 0, none⟩ = some (.int .i64 a) := Z9.cell 0 rfl
  have q1 : W9.cell? ⟨w.heap.size + 1, 1, none⟩ = some (.int .i64 b) := Z9.cell 1 rfl
  have q2 : W9.cell? ⟨w.heap.size + 1, 2, none⟩ = some (.int .i64 m) := Z9.cell 2 rfl
  have q3 : W9.cell? ⟨w.heap.size + 1, 3, none⟩ = some (.int .i64 d) := Z9.cell 3 rfl
  exact bodyPost_ret (by simp [results, Tryz.results60, go_sem, q0, q1, q2, q3]; try rfl) rfl ⟨rfl, B9⟩
end Go.Proofs.YtdgolaaheakfoaaGreatDoor.ctr
namespace Go.Proofs.YtdgolaaheakfoaaGreatDoor.ctr
open Go.RowKit
def golden (y : Int) : Int := if 1 ≤ y ∧ y ≤ 3000 then y % 19 + 1 else 0
end Go.Proofs.YtdgolaaheakfoaaGreatDoor.ctr
