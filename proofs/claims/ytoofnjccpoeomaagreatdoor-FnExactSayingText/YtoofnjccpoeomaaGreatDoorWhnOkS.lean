/- The model's WhenOk. -/
import Derived.Test.YtoofnjccpoeomaaGreatDoorWhnOk
import Derived.Deep.DeepCutAuto
import Derived.Deep.CutBlock
namespace Go.Proofs.YtoofnjccpoeomaaGreatDoor.ctr
open Go.RowKit

theorem whnB_0 (m d a b c : Int) (t : Bool) (f : ByteArray) (p : Int) : whnB ⟨0, m, d, ⟨a, b, c, t⟩, f, p⟩ = ((decide (a = 0 ∧ b = 0 ∧ c = 0 ∧ t = false) && decide (f.toList = [] ∧ p = 0)) && (inB m 1 12 && inB d 1 31)) := by
  unfold whnB
  rw [if_pos rfl]
  simp [inB, Bool.decide_and, Bool.and_assoc]
theorem whnB_1 (m d a b c : Int) (t : Bool) (f : ByteArray) (p : Int) : whnB ⟨1, m, d, ⟨a, b, c, t⟩, f, p⟩ = ((decide (m = 0 ∧ d = 0) && decide (f.toList = [] ∧ p = 0)) && romB ⟨a, b, c, t⟩) := by
  unfold whnB
  rw [if_neg (show ¬ (1 : Int) = 0 by omega), if_pos rfl]
  simp [Bool.decide_and, Bool.and_assoc]
theorem whnB_2 (m d a b c : Int) (t : Bool) (f : ByteArray) (p : Int) : whnB ⟨2, m, d, ⟨a, b, c, t⟩, f, p⟩ = ((decide (m = 0 ∧ d = 0) && decide (a = 0 ∧ b = 0 ∧ c = 0 ∧ t = false)) && (decide (0 ≤ findFeast f) && inB p 0 99)) := by
  unfold whnB
  rw [if_neg (show ¬ (2 : Int) = 0 by omega), if_neg (show ¬ (2 : Int) = 1 by omega), if_pos rfl]
  simp [inB, Bool.decide_and, Bool.and_assoc]
theorem whnB_no {k m d a b c : Int} {t : Bool} {f : ByteArray} {p : Int} (h0 : k ≠ 0) (h1 : k ≠ 1) (h2 : k ≠ 2) : whnB ⟨k, m, d, ⟨a, b, c, t⟩, f, p⟩ = false := by
  unfold whnB
  rw [if_neg h0, if_neg h1, if_neg h2]

set_option maxRecDepth 100000 in
set_option maxHeartbeats 4000000 in
theorem specWhenOk (s : Whn) (w : World) : Calls Tryz.prog 17 #[whnV s] w fun e w' => e = .returned (.bool (whnB s)) ∧ Below w.heap.size w w' := by
  obtain ⟨k, m, d, ⟨a, b, c, t⟩, f, p⟩ := s
  obtain ⟨W0, hW0, hC, hBl⟩ := box_any w #[.int .i64 k, .int .i64 m, .int .i64 d, .int .i64 a, .int .i64 b, .int .i64 c, .bool t, .string f, .int .i64 p] 30
  have c0 : ∀ x : Later W0, x.w.cell? ⟨w.heap.size, 0, none⟩ = some (.int .i64 k) := fun x => (hC x).cell 0 rfl
  have c1 : ∀ x : Later W0, x.w.cell? ⟨w.heap.size, 1, none⟩ = some (.int .i64 m) := fun x => (hC x).cell 1 rfl
  have c2 : ∀ x : Later W0, x.w.cell? ⟨w.heap.size, 2, none⟩ = some (.int .i64 d) := fun x => (hC x).cell 2 rfl
  have c3 : ∀ x : Later W0, x.w.cell? ⟨w.heap.size, 3, none⟩ = some (.int .i64 a) := fun x => (hC x).cell 3 rfl
  have c4 : ∀ x : Later W0, x.w.cell? ⟨w.heap.size, 4, none⟩ = some (.int .i64 b) := fun x => (hC x).cell 4 rfl
  have c5 : ∀ x : Later W0, x.w.cell? ⟨w.heap.size, 5, none⟩ = some (.int .i64 c) := fun x => (hC x).cell 5 rfl
  have c6 : ∀ x : Later W0, x.w.cell? ⟨w.heap.size, 6, none⟩ = some (.bool t) := fun x => (hC x).cell 6 rfl
  have c7 : ∀ x : Later W0, x.w.cell? ⟨w.heap.size, 7, none⟩ = some (.string f) := fun x => (hC x).cell 7 rfl
  have c8 : ∀ x : Later W0, x.w.cell? ⟨w.heap.size, 8, none⟩ = some (.int .i64 p) := fun x => (hC x).cell 8 rfl
  obtain ⟨x0, hx0⟩ : ∃ x0 : Later W0, W0 = x0.w := ⟨⟨W0, Below.refl _ _⟩, rfl⟩
  have HW0 := hideP (hW0.symm.trans hx0)
  have HBl := hideP hBl
  obtain ⟨ans, hans⟩ : ∃ ans, ans = whnB ⟨k, m, d, ⟨a, b, c, t⟩, f, p⟩ := ⟨_, rfl⟩
  rw [← hans]
  have HA := hideP hans
  obtain ⟨D, hD⟩ : ∃ D, D = decide (m = 0 ∧ d = 0) := ⟨_, rfl⟩
  have HD := hideP hD
  obtain ⟨R, hR⟩ : ∃ R, R = decide (a = 0 ∧ b = 0 ∧ c = 0 ∧ t = false) := ⟨_, rfl⟩
  have HR := hideP hR
  obtain ⟨Fe, hFe⟩ : ∃ Fe, Fe = decide (f.toList = [] ∧ p = 0) := ⟨_, rfl⟩
  have HFe := hideP hFe
  clear hD hR hFe
  clear hW0 hC hBl hx0 hans
  go_enter Tryz.func17, Tryz.ntmps17
  go_upto_region 1 with fail
  rw [HW0.out]
  generalize whnV ⟨k, m, d, ⟨a, b, c, t⟩, f, p⟩ = V
  go_cut [3] (fun s wx => s = .bool D ∧ wx = x0.w)
  case first =>
    go_wp2_with fail
    all_goals (go_meet; exact ⟨by rw [HD.out]; simp_all <;> (rw [Bool.eq_iff_iff]; simp), rfl⟩)
  case rest =>
  obtain ⟨rfl, rfl⟩ := hcut
  go_upto_region 2 with fail
  go_cut [4] (fun s wx => s = .bool R ∧ wx = x0.w)
  case first =>
    go_wp2_with fail
    all_goals (go_meet; exact ⟨by rw [HR.out]; simp_all <;> (rw [Bool.eq_iff_iff]; simp), rfl⟩)
  case rest =>
  obtain ⟨rfl, rfl⟩ := hcut
  go_upto_region 3 with fail
  go_cut [5] (fun s wx => s = .bool Fe ∧ wx = x0.w)
  case first =>
    go_wp2_with fail
    all_goals (go_meet; exact ⟨by rw [HFe.out]; simp_all <;> (rw [Bool.eq_iff_iff]; simp), rfl⟩)
  case rest =>
  obtain ⟨rfl, rfl⟩ := hcut
  have K12 : ∀ W, Calls Tryz.prog 40 #[.int .i64 m, .int .i64 1, .int .i64 12] W fun e w' => e = .returned (.bool (inB m 1 12)) ∧ w' = W := fun W => l01In _ _ _ W
  have K31 : ∀ W, Calls Tryz.prog 40 #[.int .i64 d, .int .i64 1, .int .i64 31] W fun e w' => e = .returned (.bool (inB d 1 31)) ∧ w' = W := fun W => l01In _ _ _ W
  have K99 : ∀ W, Calls Tryz.prog 40 #[.int .i64 p, .int .i64 0, .int .i64 99] W fun e w' => e = .returned (.bool (inB p 0 99)) ∧ w' = W := fun W => l01In _ _ _ W
  have KI : ∀ W, Calls Tryz.prog 41 #[.agg #[.int .i64 a, .int .i64 b, .int .i64 c, .bool t]] W fun e w' => e = .returned (.bool (romB ⟨a, b, c, t⟩)) ∧ Below W.heap.size W w' := fun W => specIs ⟨a, b, c, t⟩ W
  have KF : ∀ W, Calls Tryz.prog 42 #[.string f] W fun e w' => e = .returned (.int .i64 (findFeast f)) ∧ Below W.heap.size W w' := fun W => specFind f W
  by_cases h0 : k = 0
  · subst h0
    have HA0 : Hid (ans = ((R && Fe) && (inB m 1 12 && inB d 1 31))) := by unfold Hid; rw [HA.out, whnB_0, ← HR.out, ← HFe.out]
    clear HD HR HFe
    generalize inB m 1 12 = B1 at *
    generalize inB d 1 31 = B2 at *
    clear HA K99 KI KF
    cases R
    · obtain rfl : ans = false := by rw [HA0.out]; rfl
      go_wp2
      go_ret
      exact ⟨rfl, HBl.out x0⟩
    cases Fe
    · obtain rfl : ans = false := by rw [HA0.out]; rfl
      go_wp2
      go_ret
      exact ⟨rfl, HBl.out x0⟩
    cases B1
    · obtain rfl : ans = false := by rw [HA0.out]; rfl
      go_wp2_with fail
      refine (K12 _).mono ?_
      rintro e w1 ⟨rfl, rfl⟩
      go_wp2
      go_ret
      exact ⟨rfl, HBl.out x0⟩
    obtain rfl : ans = B2 := by rw [HA0.out]; rfl
    go_wp2_with fail
    refine (K12 _).mono ?_
    rintro e w1 ⟨rfl, rfl⟩
    go_wp2_with fail
    refine (K31 _).mono ?_
    rintro e w1 ⟨rfl, rfl⟩
    go_wp2
    go_ret
    exact ⟨rfl, HBl.out x0⟩
  have e0 : (k == 0) = false := by simpa using h0
  by_cases h1 : k = 1
  · subst h1
    have HA0 : Hid (ans = ((D && Fe) && romB ⟨a, b, c, t⟩)) := by unfold Hid; rw [HA.out, whnB_1, ← HD.out, ← HFe.out]
    clear HD HR HFe
    generalize romB ⟨a, b, c, t⟩ = B1 at *
    clear HA K99 K12 K31 KF
    cases D
    · obtain rfl : ans = false := by rw [HA0.out]; rfl
      go_wp2
      go_ret
      exact ⟨rfl, HBl.out x0⟩
    cases Fe
    · obtain rfl : ans = false := by rw [HA0.out]; rfl
      go_wp2
      go_ret
      exact ⟨rfl, HBl.out x0⟩
    obtain rfl : ans = B1 := by rw [HA0.out]; rfl
    go_wp2_with fail
    refine (KI _).mono ?_
    rintro e w1 ⟨rfl, hb⟩
    obtain ⟨x1, rfl⟩ := x0.next hb
    clear hb
    go_wp2
    go_ret
    exact ⟨rfl, HBl.out x1⟩
  have e1 : (k == 1) = false := by simpa using h1
  by_cases h2 : k = 2
  · subst h2
    have HA0 : Hid (ans = ((D && R) && (decide (0 ≤ findFeast f) && inB p 0 99))) := by unfold Hid; rw [HA.out, whnB_2, ← HD.out, ← HR.out]
    clear HD HR HFe
    generalize findFeast f = z at *
    generalize inB p 0 99 = B1 at *
    clear HA KI K12 K31
    cases D
    · obtain rfl : ans = false := by rw [HA0.out]; rfl
      go_wp2
      go_ret
      exact ⟨rfl, HBl.out x0⟩
    cases R
    · obtain rfl : ans = false := by rw [HA0.out]; rfl
      go_wp2
      go_ret
      exact ⟨rfl, HBl.out x0⟩
    by_cases hz : 0 ≤ z
    case neg =>
      obtain rfl : ans = false := by rw [HA0.out, decide_eq_false hz]; rfl
      go_wp2_with fail
      refine (KF _).mono ?_
      rintro e w1 ⟨rfl, hb⟩
      obtain ⟨x1, rfl⟩ := x0.next hb
      clear hb
      go_wp2
      go_ret
      exact ⟨rfl, HBl.out x1⟩
    obtain rfl : ans = B1 := by rw [HA0.out, decide_eq_true hz]; rfl
    go_wp2_with fail
    refine (KF _).mono ?_
    rintro e w1 ⟨rfl, hb⟩
    obtain ⟨x1, rfl⟩ := x0.next hb
    clear hb
    go_wp2_with fail
    refine (K99 _).mono ?_
    rintro e w2 ⟨rfl, rfl⟩
    go_wp2
    go_ret
    exact ⟨rfl, HBl.out x1⟩
  have e2 : (k == 2) = false := by simpa using h2
  obtain rfl : ans = false := HA.out.trans (whnB_no h0 h1 h2)
  go_wp2
  go_ret
  exact ⟨rfl, HBl.out x0⟩
end Go.Proofs.YtoofnjccpoeomaaGreatDoor.ctr
