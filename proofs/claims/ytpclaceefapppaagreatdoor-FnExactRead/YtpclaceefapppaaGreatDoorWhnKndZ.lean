/- Contracts of the program's kindOf and of both WhenOk. -/
import Derived.Test.YtpclaceefapppaaGreatDoorJnZad
import Derived.Test.YtpclaceefapppaaGreatDoorJnZaw
set_option maxHeartbeats 4000000
namespace Go.Proofs.YtpclaceefapppaaGreatDoor.ctr
open Go.RowKit
theorem kindDay (m d : Int) (w : World) : CR 133 #[.agg #[.int .i64 0, .int .i64 m, .int .i64 d, .int .i64 0, .int .i64 0, .int .i64 0, .bool false, .string ⟨#[]⟩, .int .i64 0]] w (.iface 218 (.agg #[.int .i64 m, .int .i64 d])) := by
 obtain ⟨W0, hW0, hC, hBl⟩ := box_any w #[.int .i64 0, .int .i64 m, .int .i64 d, .int .i64 0, .int .i64 0, .int .i64 0, .bool false, .string ⟨#[]⟩, .int .i64 0] 56
 obtain ⟨c0, c1, c2, c3, c4, c5, c6, c7, c8⟩ := cells9 hC
 obtain ⟨x0, hx0⟩ : ∃ x0 : Later W0, W0 = x0.w := ⟨⟨W0, Below.refl _ _⟩, rfl⟩
 have HW0 := hideP (hW0.symm.trans hx0)
 have HBl := hideP hBl
 clear hW0 hC hBl hx0
 go_enter Tryz.func133, Tryz.ntmps133
 go_wp2_with fail
 rw [HW0.out]
 go_wp2
 go_ret
 exact ⟨rfl, HBl.out x0⟩
theorem kindRom (a b c : Int) (t : Bool) (w : World) : CR 133 #[.agg #[.int .i64 1, .int .i64 0, .int .i64 0, .int .i64 a, .int .i64 b, .int .i64 c, .bool t, .string ⟨#[]⟩, .int .i64 0]] w (.iface 220 (.agg #[.int .i64 a, .int .i64 b, .int .i64 c, .bool t])) := by
 obtain ⟨W0, hW0, hC, hBl⟩ := box_any w #[.int .i64 1, .int .i64 0, .int .i64 0, .int .i64 a, .int .i64 b, .int .i64 c, .bool t, .string ⟨#[]⟩, .int .i64 0] 56
 obtain ⟨c0, c1, c2, c3, c4, c5, c6, c7, c8⟩ := cells9 hC
 obtain ⟨x0, hx0⟩ : ∃ x0 : Later W0, W0 = x0.w := ⟨⟨W0, Below.refl _ _⟩, rfl⟩
 have HW0 := hideP (hW0.symm.trans hx0)
 have HBl := hideP hBl
 clear hW0 hC hBl hx0
 go_enter Tryz.func133, Tryz.ntmps133
 go_wp2_with fail
 rw [HW0.out]
 go_wp2
 go_ret
 exact ⟨rfl, HBl.out x0⟩
theorem kindFea (f : ByteArray) (p : Int) (w : World) : CR 133 #[.agg #[.int .i64 2, .int .i64 0, .int .i64 0, .int .i64 0, .int .i64 0, .int .i64 0, .bool false, .string f, .int .i64 p]] w (.iface 223 (.agg #[.string (feaOf f).name, .bool (feaOf f).mv, .int .i64 (feaOf f).off, .int .i64 (feaOf f).m, .int .i64 (feaOf f).d, .int .i64 p])) := by
 obtain ⟨W0, hW0, hC, hBl⟩ := box_any w #[.int .i64 2, .int .i64 0, .int .i64 0, .int .i64 0, .int .i64 0, .int .i64 0, .bool false, .string f, .int .i64 p] 56
 obtain ⟨c0, c1, c2, c3, c4, c5, c6, c7, c8⟩ := cells9 hC
 obtain ⟨x0, hx0⟩ : ∃ x0 : Later W0, W0 = x0.w := ⟨⟨W0, Below.refl _ _⟩, rfl⟩
 have HW0 := hideP (hW0.symm.trans hx0)
 have HBl := hideP hBl
 clear hW0 hC hBl hx0
 have KN : ∀ W, CR 186 #[.string f] W (.agg #[.string (feaOf f).name, .bool (feaOf f).mv, .int .i64 (feaOf f).off, .int .i64 (feaOf f).m, .int .i64 (feaOf f).d]) := fun W => implFeastNamed f W
 generalize feaOf f = g at *
 go_enter Tryz.func133, Tryz.ntmps133
 go_wp2_with fail
 rw [HW0.out]
 go_wp2_with fail
 refine wp_region_later (W := W0) x0.below (by kernel_rfl) (by kernel_rfl) ?_
 repeat (go_big_quiet_step (first | (go_at_call 186; exact calls_later (KN _)) | fail))
 refine quietE fun u => ?_
 go_wp2
 go_ret
 exact ⟨rfl, HBl.out u⟩
theorem kindNo (k m d a b c : Int) (t : Bool) (f : ByteArray) (p : Int) (w : World) (h0 : k ≠ 0) (h1 : k ≠ 1) (h2 : k ≠ 2) : CR 133 #[.agg #[.int .i64 k, .int .i64 m, .int .i64 d, .int .i64 a, .int .i64 b, .int .i64 c, .bool t, .string f, .int .i64 p]] w .nilIface := by
 have e0 : (k == 0) = false := by simpa using h0
 have e1 : (k == 1) = false := by simpa using h1
 have e2 : (k == 2) = false := by simpa using h2
 have HNo : Hid (¬ False) := fun h => h
 go_enter Tryz.func133, Tryz.ntmps133
 go_wp2
 all_goals first | (go_ret; exact ⟨rfl, (Below.refl _ _).alloc (Nat.le_refl _) _⟩) | (exact (HNo.out (by simp_all)).elim)
theorem kindNo0 (m d a b c : Int) (t : Bool) (f : ByteArray) (p : Int) (w : World) (hno : ¬ (a = 0 ∧ b = 0 ∧ c = 0 ∧ t = false ∧ f.toList = [] ∧ p = 0)) : CR 133 #[.agg #[.int .i64 0, .int .i64 m, .int .i64 d, .int .i64 a, .int .i64 b, .int .i64 c, .bool t, .string f, .int .i64 p]] w .nilIface := by
 have HNo := hideP hno
 clear hno
 go_enter Tryz.func133, Tryz.ntmps133
 go_wp2
 all_goals first | (go_ret; exact ⟨rfl, (Below.refl _ _).alloc (Nat.le_refl _) _⟩) | (exact (HNo.out (by simp_all)).elim)
theorem kindNo1 (m d a b c : Int) (t : Bool) (f : ByteArray) (p : Int) (w : World) (hno : ¬ (m = 0 ∧ d = 0 ∧ f.toList = [] ∧ p = 0)) : CR 133 #[.agg #[.int .i64 1, .int .i64 m, .int .i64 d, .int .i64 a, .int .i64 b, .int .i64 c, .bool t, .string f, .int .i64 p]] w .nilIface := by
 have HNo := hideP hno
 clear hno
 go_enter Tryz.func133, Tryz.ntmps133
 go_wp2
 all_goals first | (go_ret; exact ⟨rfl, (Below.refl _ _).alloc (Nat.le_refl _) _⟩) | (exact (HNo.out (by simp_all)).elim)
theorem kindNo2 (m d a b c : Int) (t : Bool) (f : ByteArray) (p : Int) (w : World) (hno : ¬ (m = 0 ∧ d = 0 ∧ a = 0 ∧ b = 0 ∧ c = 0 ∧ t = false)) : CR 133 #[.agg #[.int .i64 2, .int .i64 m, .int .i64 d, .int .i64 a, .int .i64 b, .int .i64 c, .bool t, .string f, .int .i64 p]] w .nilIface := by
 have HNo := hideP hno
 clear hno
 go_enter Tryz.func133, Tryz.ntmps133
 go_wp2
 all_goals first | (go_ret; exact ⟨rfl, (Below.refl _ _).alloc (Nat.le_refl _) _⟩) | (exact (HNo.out (by simp_all)).elim)
end Go.Proofs.YtpclaceefapppaaGreatDoor.ctr
