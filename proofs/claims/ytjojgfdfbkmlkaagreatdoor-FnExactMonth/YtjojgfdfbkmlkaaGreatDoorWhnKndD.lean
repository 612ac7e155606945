/- Contracts of the program's kindOf and of both WhenOk. -/
import Derived.Test.YtjojgfdfbkmlkaaGreatDoorJnDan
namespace Go.Proofs.YtjojgfdfbkmlkaaGreatDoor.ctr
open Go.RowKit
set_option maxHeartbeats 2000000 in
theorem kindDay (m d : Int) (w : World) : Calls Tryz.prog 145 #[.agg #[.int .i64 0, .int .i64 m, .int .i64 d, .int .i64 0, .int .i64 0, .int .i64 0, .bool false, .string ⟨#[]⟩, .int .i64 0]] w fun e w' => e = .returned (.iface 227 (.agg #[.int .i64 m, .int .i64 d])) ∧ Below w.heap.size w w' := by
  obtain ⟨W0, hW0, hC, hBl⟩ := box_any w #[.int .i64 0, .int .i64 m, .int .i64 d, .int .i64 0, .int .i64 0, .int .i64 0, .bool false, .string ⟨#[]⟩, .int .i64 0] 57
  have c0 : ∀ x : Later W0, x.w.cell? ⟨w.heap.size, 0, none⟩ = some (.int .i64 0) := fun x => (hC x).cell 0 rfl
  have c1 : ∀ x : Later W0, x.w.cell? ⟨w.heap.size, 1, none⟩ = some (.int .i64 m) := fun x => (hC x).cell 1 rfl
  have c2 : ∀ x : Later W0, x.w.cell? ⟨w.heap.size, 2, none⟩ = some (.int .i64 d) := fun x => (hC x).cell 2 rfl
  have c3 : ∀ x : Later W0, x.w.cell? ⟨w.heap.size, 3, none⟩ = some (.int .i64 0) := fun x => (hC x).cell 3 rfl
  have c4 : ∀ x : Later W0, x.w.cell? ⟨w.heap.size, 4, none⟩ = some (.int .i64 0) := fun x => (hC x).cell 4 rfl
  have c5 : ∀ x : Later W0, x.w.cell? ⟨w.heap.size, 5, none⟩ = some (.int .i64 0) := fun x => (hC x).cell 5 rfl
  have c6 : ∀ x : Later W0, x.w.cell? ⟨w.heap.size, 6, none⟩ = some (.bool false) := fun x => (hC x).cell 6 rfl
  have c7 : ∀ x : Later W0, x.w.cell? ⟨w.heap.size, 7, none⟩ = some (.string ⟨#[]⟩) := fun x => (hC x).cell 7 rfl
  have c8 : ∀ x : Later W0, x.w.cell? ⟨w.heap.size, 8, none⟩ = some (.int .i64 0) := fun x => (hC x).cell 8 rfl
  obtain ⟨x0, hx0⟩ : ∃ x0 : Later W0, W0 = x0.w := ⟨⟨W0, Below.refl _ _⟩, rfl⟩
  have HW0 := hideP (hW0.symm.trans hx0)
  have HBl := hideP hBl
  clear hW0 hC hBl hx0
  go_enter Tryz.func145, Tryz.ntmps145
  go_wp2_with fail
  rw [HW0.out]
  go_wp2
  go_ret
  exact ⟨rfl, HBl.out x0⟩
set_option maxHeartbeats 2000000 in
theorem kindRom (a b c : Int) (t : Bool) (w : World) : Calls Tryz.prog 145 #[.agg #[.int .i64 1, .int .i64 0, .int .i64 0, .int .i64 a, .int .i64 b, .int .i64 c, .bool t, .string ⟨#[]⟩, .int .i64 0]] w fun e w' => e = .returned (.iface 229 (.agg #[.int .i64 a, .int .i64 b, .int .i64 c, .bool t])) ∧ Below w.heap.size w w' := by
  obtain ⟨W0, hW0, hC, hBl⟩ := box_any w #[.int .i64 1, .int .i64 0, .int .i64 0, .int .i64 a, .int .i64 b, .int .i64 c, .bool t, .string ⟨#[]⟩, .int .i64 0] 57
  have c0 : ∀ x : Later W0, x.w.cell? ⟨w.heap.size, 0, none⟩ = some (.int .i64 1) := fun x => (hC x).cell 0 rfl
  have c1 : ∀ x : Later W0, x.w.cell? ⟨w.heap.size, 1, none⟩ = some (.int .i64 0) := fun x => (hC x).cell 1 rfl
  have c2 : ∀ x : Later W0, x.w.cell? ⟨w.heap.size, 2, none⟩ = some (.int .i64 0) := fun x => (hC x).cell 2 rfl
  have c3 : ∀ x : Later W0, x.w.cell? ⟨w.heap.size, 3, none⟩ = some (.int .i64 a) := fun x => (hC x).cell 3 rfl
  have c4 : ∀ x : Later W0, x.w.cell? ⟨w.heap.size, 4, none⟩ = some (.int .i64 b) := fun x => (hC x).cell 4 rfl
  have c5 : ∀ x : Later W0, x.w.cell? ⟨w.heap.size, 5, none⟩ = some (.int .i64 c) := fun x => (hC x).cell 5 rfl
  have c6 : ∀ x : Later W0, x.w.cell? ⟨w.heap.size, 6, none⟩ = some (.bool t) := fun x => (hC x).cell 6 rfl
  have c7 : ∀ x : Later W0, x.w.cell? ⟨w.heap.size, 7, none⟩ = some (.string ⟨#[]⟩) := fun x => (hC x).cell 7 rfl
  have c8 : ∀ x : Later W0, x.w.cell? ⟨w.heap.size, 8, none⟩ = some (.int .i64 0) := fun x => (hC x).cell 8 rfl
  obtain ⟨x0, hx0⟩ : ∃ x0 : Later W0, W0 = x0.w := ⟨⟨W0, Below.refl _ _⟩, rfl⟩
  have HW0 := hideP (hW0.symm.trans hx0)
  have HBl := hideP hBl
  clear hW0 hC hBl hx0
  go_enter Tryz.func145, Tryz.ntmps145
  go_wp2_with fail
  rw [HW0.out]
  go_wp2
  go_ret
  exact ⟨rfl, HBl.out x0⟩
set_option maxHeartbeats 2000000 in
theorem kindFea (f : ByteArray) (p : Int) (w : World) : Calls Tryz.prog 145 #[.agg #[.int .i64 2, .int .i64 0, .int .i64 0, .int .i64 0, .int .i64 0, .int .i64 0, .bool false, .string f, .int .i64 p]] w fun e w' => e = .returned (.iface 232 (.agg #[.string (feaOf f).name, .bool (feaOf f).mv, .int .i64 (feaOf f).off, .int .i64 (feaOf f).m, .int .i64 (feaOf f).d, .int .i64 p])) ∧ Below w.heap.size w w' := by
  obtain ⟨W0, hW0, hC, hBl⟩ := box_any w #[.int .i64 2, .int .i64 0, .int .i64 0, .int .i64 0, .int .i64 0, .int .i64 0, .bool false, .string f, .int .i64 p] 57
  have c0 : ∀ x : Later W0, x.w.cell? ⟨w.heap.size, 0, none⟩ = some (.int .i64 2) := fun x => (hC x).cell 0 rfl
  have c1 : ∀ x : Later W0, x.w.cell? ⟨w.heap.size, 1, none⟩ = some (.int .i64 0) := fun x => (hC x).cell 1 rfl
  have c2 : ∀ x : Later W0, x.w.cell? ⟨w.heap.size, 2, none⟩ = some (.int .i64 0) := fun x => (hC x).cell 2 rfl
  have c3 : ∀ x : Later W0, x.w.cell? ⟨w.heap.size, 3, none⟩ = some (.int .i64 0) := fun x => (hC x).cell 3 rfl
  have c4 : ∀ x : Later W0, x.w.cell? ⟨w.heap.size, 4, none⟩ = some (.int .i64 0) := fun x => (hC x).cell 4 rfl
  have c5 : ∀ x : Later W0, x.w.cell? ⟨w.heap.size, 5, none⟩ = some (.int .i64 0) := fun x => (hC x).cell 5 rfl
  have c6 : ∀ x : Later W0, x.w.cell? ⟨w.heap.size, 6, none⟩ = some (.bool false) := fun x => (hC x).cell 6 rfl
  have c7 : ∀ x : Later W0, x.w.cell? ⟨w.heap.size, 7, none⟩ = some (.string f) := fun x => (hC x).cell 7 rfl
  have c8 : ∀ x : Later W0, x.w.cell? ⟨w.heap.size, 8, none⟩ = some (.int .i64 p) := fun x => (hC x).cell 8 rfl
  obtain ⟨x0, hx0⟩ : ∃ x0 : Later W0, W0 = x0.w := ⟨⟨W0, Below.refl _ _⟩, rfl⟩
  have HW0 := hideP (hW0.symm.trans hx0)
  have HBl := hideP hBl
  clear hW0 hC hBl hx0
  have KN : ∀ W, Calls Tryz.prog 211 #[.string f] W fun e w' => e = .returned (.agg #[.string (feaOf f).name, .bool (feaOf f).mv, .int .i64 (feaOf f).off, .int .i64 (feaOf f).m, .int .i64 (feaOf f).d]) ∧ Below W.heap.size W w' := fun W => implFeastNamed f W
  generalize feaOf f = g at *
  go_enter Tryz.func145, Tryz.ntmps145
  go_wp2_with fail
  rw [HW0.out]
  go_wp2_with fail
  refine wp_region_later (W := W0) x0.below (by kernel_rfl) (by kernel_rfl) ?_
  repeat (go_big_quiet_step (first | (go_at_call 211; exact calls_later (KN _)) | fail))
  refine wpQuiet_nil ?_
  intro _ hw'
  obtain ⟨u, rfl⟩ := hw'
  go_wp2
  go_ret
  exact ⟨rfl, HBl.out u⟩
set_option maxHeartbeats 4000000 in
theorem kindNo (k m d a b c : Int) (t : Bool) (f : ByteArray) (p : Int) (w : World) (h0 : k ≠ 0) (h1 : k ≠ 1) (h2 : k ≠ 2) : Calls Tryz.prog 145 #[.agg #[.int .i64 k, .int .i64 m, .int .i64 d, .int .i64 a, .int .i64 b, .int .i64 c, .bool t, .string f, .int .i64 p]] w fun e w' => e = .returned .nilIface ∧ Below w.heap.size w w' := by
  have e0 : (k == 0) = false := by simpa using h0
  have e1 : (k == 1) = false := by simpa using h1
  have e2 : (k == 2) = false := by simpa using h2
  have HNo : Hid (¬ False) := fun h => h
  go_enter Tryz.func145, Tryz.ntmps145
  go_wp2
  all_goals first | (go_ret; exact ⟨rfl, (Below.refl _ _).alloc (Nat.le_refl _) _⟩) | (exact (HNo.out (by simp_all)).elim)
set_option maxHeartbeats 4000000 in
theorem kindNo0 (m d a b c : Int) (t : Bool) (f : ByteArray) (p : Int) (w : World) (hno : ¬ (a = 0 ∧ b = 0 ∧ c = 0 ∧ t = false ∧ f.toList = [] ∧ p = 0)) : Calls Tryz.prog 145 #[.agg #[.int .i64 0, .int .i64 m, .int .i64 d, .int .i64 a, .int .i64 b, .int .i64 c, .bool t, .string f, .int .i64 p]] w fun e w' => e = .returned .nilIface ∧ Below w.heap.size w w' := by
  have HNo := hideP hno
  clear hno
  go_enter Tryz.func145, Tryz.ntmps145
  go_wp2
  all_goals first | (go_ret; exact ⟨rfl, (Below.refl _ _).alloc (Nat.le_refl _) _⟩) | (exact (HNo.out (by simp_all)).elim)
set_option maxHeartbeats 4000000 in
theorem kindNo1 (m d a b c : Int) (t : Bool) (f : ByteArray) (p : Int) (w : World) (hno : ¬ (m = 0 ∧ d = 0 ∧ f.toList = [] ∧ p = 0)) : Calls Tryz.prog 145 #[.agg #[.int .i64 1, .int .i64 m, .int .i64 d, .int .i64 a, .int .i64 b, .int .i64 c, .bool t, .string f, .int .i64 p]] w fun e w' => e = .returned .nilIface ∧ Below w.heap.size w w' := by
  have HNo := hideP hno
  clear hno
  go_enter Tryz.func145, Tryz.ntmps145
  go_wp2
  all_goals first | (go_ret; exact ⟨rfl, (Below.refl _ _).alloc (Nat.le_refl _) _⟩) | (exact (HNo.out (by simp_all)).elim)
set_option maxHeartbeats 4000000 in
theorem kindNo2 (m d a b c : Int) (t : Bool) (f : ByteArray) (p : Int) (w : World) (hno : ¬ (m = 0 ∧ d = 0 ∧ a = 0 ∧ b = 0 ∧ c = 0 ∧ t = false)) : Calls Tryz.prog 145 #[.agg #[.int .i64 2, .int .i64 m, .int .i64 d, .int .i64 a, .int .i64 b, .int .i64 c, .bool t, .string f, .int .i64 p]] w fun e w' => e = .returned .nilIface ∧ Below w.heap.size w w' := by
  have HNo := hideP hno
  clear hno
  go_enter Tryz.func145, Tryz.ntmps145
  go_wp2
  all_goals first | (go_ret; exact ⟨rfl, (Below.refl _ _).alloc (Nat.le_refl _) _⟩) | (exact (HNo.out (by simp_all)).elim)
end Go.Proofs.YtjojgfdfbkmlkaaGreatDoor.ctr
