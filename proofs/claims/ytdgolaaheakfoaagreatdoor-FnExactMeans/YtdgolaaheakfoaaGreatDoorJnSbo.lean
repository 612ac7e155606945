/- The model's WhenOk. What a saying is; contracts of both SayingOk: the same plain function. Contracts of both FeastDay: each answers its plain function at every calendar, year and feast. -/
import Derived.Test.YtdgolaaheakfoaaGreatDoorJnSbn
import Derived.Deep.DeepCutAuto
import Derived.Deep.CutBlock
import Derived.Test.YtdgolaaheakfoaaGreatDoorJnSaq
import Derived.Test.YtdgolaaheakfoaaGreatDoorJnSbl
import Derived.Test.YtdgolaaheakfoaaGreatDoorJnSbc
import Derived.Test.YtdgolaaheakfoaaGreatDoorJnSas
namespace Go.Proofs.YtdgolaaheakfoaaGreatDoor.ctr
open Go.RowKit
theorem whnB_0 (m d a b c : Int) (t : Bool) (f : ByteArray) (p : Int) : whnB ⟨0, m, d, ⟨a, b, c, t⟩, f, p⟩ = ((decide (a = 0 ∧ b = 0 ∧ c = 0 ∧ t = false) && decide (f.toList = [] ∧ p = 0)) && (inB m 1 12 && inB d 1 31)) := by
  unfold whnB
  rw [if_pos rfl]
  simp [inB, Bool.decide_and, Bool.and_assoc]
theorem whnB_1 (m d a b c : Int) (t : Bool) (f : ByteArray) (p : Int) : whnB ⟨1, m, d, ⟨a, b, c, t⟩, f, p⟩ = ((decide (m = 0 ∧ d = 0) && decide (f.toList = [] ∧ p = 0)) && romB ⟨a, b, c, t⟩) := by
  unfold whnB
  rw [if_neg (show ¬ (1 : Int) = 0 by omega), if_pos rfl]
  simp [Bool.decide_and, Bool.and_assoc]
theorem whnB_2 (m d a b c : Int) (t : Bool) (f : ByteArray) (p : Int) : whnB ⟨2, m, d, ⟨a, b, c, t⟩, f, p⟩ = ((decide (m = 0 ∧ d = 0) && decide (a = 0 ∧ b = 0 ∧ c = 0 ∧ t = false)) && (decide (0 ≤ findFeast f) && inB p 0 99)) := by
  unfold whnB
  rw [if_neg (show ¬ (2 : Int) = 0 by omega), if_neg (show ¬ (2 : Int) = 1 by omega), if_pos rfl]
  simp [inB, Bool.decide_and, Bool.and_assoc]
theorem whnB_no {k m d a b c : Int} {t : Bool} {f : ByteArray} {p : Int} (h0 : k ≠ 0) (h1 : k ≠ 1) (h2 : k ≠ 2) : whnB ⟨k, m, d, ⟨a, b, c, t⟩, f, p⟩ = false := by
  unfold whnB
  rw [if_neg h0, if_neg h1, if_neg h2]
set_option maxRecDepth 100000 in
set_option maxHeartbeats 4000000 in
theorem specWhenOk (s : Whn) (w : World) : Calls Tryz.prog 74 #[whnV s] w fun e w' => e = .returned (.bool (whnB s)) ∧ Below w.heap.size w w' := by
  obtain ⟨k, m, d, ⟨a, b, c, t⟩, f, p⟩ := s
  obtain ⟨W0, hW0, hC, hBl⟩ := box_any w #[.int .i64 k, .int .i64 m, .int .i64 d, .int .i64 a, .int .i64 b, .int .i64 c, .bool t, .string f, .int .i64 p] 44
  have c0 : ∀ x : Later W0, x.w.cell? ⟨w.heap.size, 0, none⟩ = some (.int .i64 k) := fun x => (hC x).cell 0 rfl
  have c1 : ∀ x : Later W0, x.w.cell? ⟨w.heap.size, 1, none⟩ = some (.int .i64 m) := fun x => (hC x).cell 1 rfl
  have c2 : ∀ x : Later W0, x.w.cell? ⟨w.heap.size, 2, none⟩ = some (.int .i64 d) := fun x => (hC x).cell 2 rfl
  have c3 : ∀ x : Later W0, x.w.cell? ⟨w.heap.size, 3, none⟩ = some (.int .i64 a) := fun x => (hC x).cell 3 rfl
  have c4 : ∀ x : Later W0, x.w.cell? ⟨w.heap.size, 4, none⟩ = some (.int .i64 b) := fun x => (hC x).cell 4 rfl
  have c5 : ∀ x : Later W0, x.w.cell? ⟨w.heap.size, 5, none⟩ = some (.int .i64 c) := fun x => (hC x).cell 5 rfl
  have c6 : ∀ x : Later W0, x.w.cell? ⟨w.heap.size, 6, none⟩ = some (.bool t) := fun x => (hC x).cell 6 rfl
  have c7 : ∀ x : Later W0, x.w.cell? ⟨w.heap.size, 7, none⟩ = some (.string f) := fun x => (hC x).cell 7 rfl
  have c8 : ∀ x : Later W0, x.w.cell? ⟨w.heap.size, 8, none⟩ = some (.int .i64 p) := fun x => (hC x).cell 8 rfl
  obtain ⟨x0, hx0⟩ : ∃ x0 : Later W0, W0 = x0.w := ⟨⟨W0, Below.refl _ _⟩, rfl⟩
  have HW0 := hideP (hW0.symm.trans hx0)
  have HBl := hideP hBl
  obtain ⟨ans, hans⟩ : ∃ ans, ans = whnB ⟨k, m, d, ⟨a, b, c, t⟩, f, p⟩ := ⟨_, rfl⟩
  rw [← hans]
  have HA := hideP hans
  obtain ⟨D, hD⟩ : ∃ D, D = decide (m = 0 ∧ d = 0) := ⟨_, rfl⟩
  have HD := hideP hD
  obtain ⟨R, hR⟩ : ∃ R, R = decide (a = 0 ∧ b = 0 ∧ c = 0 ∧ t = false) := ⟨_, rfl⟩
  have HR := hideP hR
  obtain ⟨Fe, hFe⟩ : ∃ Fe, Fe = decide (f.toList = [] ∧ p = 0) := ⟨_, rfl⟩
  have HFe := hideP hFe
  clear hD hR hFe
  clear hW0 hC hBl hx0 hans
  go_enter Tryz.func74, Tryz.ntmps74
  go_upto_region 1 with fail
  rw [HW0.out]
  generalize whnV ⟨k, m, d, ⟨a, b, c, t⟩, f, p⟩ = V
  go_cut [3] (fun s wx => s = .bool D ∧ wx = x0.w)
  case first =>
    go_wp2_with fail
    all_goals (go_meet; exact ⟨by rw [HD.out]; simp_all <;> (rw [Bool.eq_iff_iff]; simp), rfl⟩)
  case rest =>
  obtain ⟨rfl, rfl⟩ := hcut
  go_upto_region 2 with fail
  go_cut [4] (fun s wx => s = .bool R ∧ wx = x0.w)
  case first =>
    go_wp2_with fail
    all_goals (go_meet; exact ⟨by rw [HR.out]; simp_all <;> (rw [Bool.eq_iff_iff]; simp), rfl⟩)
  case rest =>
  obtain ⟨rfl, rfl⟩ := hcut
  go_upto_region 3 with fail
  go_cut [5] (fun s wx => s = .bool Fe ∧ wx = x0.w)
  case first =>
    go_wp2_with fail
    all_goals (go_meet; exact ⟨by rw [HFe.out]; simp_all <;> (rw [Bool.eq_iff_iff]; simp), rfl⟩)
  case rest =>
  obtain ⟨rfl, rfl⟩ := hcut
  have K12 : ∀ W, Calls Tryz.prog 54 #[.int .i64 m, .int .i64 1, .int .i64 12] W fun e w' => e = .returned (.bool (inB m 1 12)) ∧ w' = W := fun W => l01In _ _ _ W
  have K31 : ∀ W, Calls Tryz.prog 54 #[.int .i64 d, .int .i64 1, .int .i64 31] W fun e w' => e = .returned (.bool (inB d 1 31)) ∧ w' = W := fun W => l01In _ _ _ W
  have K99 : ∀ W, Calls Tryz.prog 54 #[.int .i64 p, .int .i64 0, .int .i64 99] W fun e w' => e = .returned (.bool (inB p 0 99)) ∧ w' = W := fun W => l01In _ _ _ W
  have KI : ∀ W, Calls Tryz.prog 116 #[.agg #[.int .i64 a, .int .i64 b, .int .i64 c, .bool t]] W fun e w' => e = .returned (.bool (romB ⟨a, b, c, t⟩)) ∧ Below W.heap.size W w' := fun W => specIs ⟨a, b, c, t⟩ W
  have KF : ∀ W, Calls Tryz.prog 117 #[.string f] W fun e w' => e = .returned (.int .i64 (findFeast f)) ∧ Below W.heap.size W w' := fun W => specFind f W
  by_cases h0 : k = 0
  · subst h0
    have HA0 : Hid (ans = ((R && Fe) && (inB m 1 12 && inB d 1 31))) := by unfold Hid; rw [HA.out, whnB_0, ← HR.out, ← HFe.out]
    clear HD HR HFe
    generalize inB m 1 12 = B1 at *
    generalize inB d 1 31 = B2 at *
    clear HA K99 KI KF
    cases R
    · obtain rfl : ans = false := by rw [HA0.out]; rfl
      go_wp2
      go_ret
      exact ⟨rfl, HBl.out x0⟩
    cases Fe
    · obtain rfl : ans = false := by rw [HA0.out]; rfl
      go_wp2
      go_ret
      exact ⟨rfl, HBl.out x0⟩
    cases B1
    · obtain rfl : ans = false := by rw [HA0.out]; rfl
      go_wp2_with fail
      refine (K12 _).mono ?_
      rintro e w1 ⟨rfl, rfl⟩
      go_wp2
      go_ret
      exact ⟨rfl, HBl.out x0⟩
    obtain rfl : ans = B2 := by rw [HA0.out]; rfl
    go_wp2_with fail
    refine (K12 _).mono ?_
    rintro e w1 ⟨rfl, rfl⟩
    go_wp2_with fail
    refine (K31 _).mono ?_
    rintro e w1 ⟨rfl, rfl⟩
    go_wp2
    go_ret
    exact ⟨rfl, HBl.out x0⟩
  have e0 : (k == 0) = false := by simpa using h0
  by_cases h1 : k = 1
  · subst h1
    have HA0 : Hid (ans = ((D && Fe) && romB ⟨a, b, c, t⟩)) := by unfold Hid; rw [HA.out, whnB_1, ← HD.out, ← HFe.out]
    clear HD HR HFe
    generalize romB ⟨a, b, c, t⟩ = B1 at *
    clear HA K99 K12 K31 KF
    cases D
    · obtain rfl : ans = false := by rw [HA0.out]; rfl
      go_wp2
      go_ret
      exact ⟨rfl, HBl.out x0⟩
    cases Fe
    · obtain rfl : ans = false := by rw [HA0.out]; rfl
      go_wp2
      go_ret
      exact ⟨rfl, HBl.out x0⟩
    obtain rfl : ans = B1 := by rw [HA0.out]; rfl
    go_wp2_with fail
    refine (KI _).mono ?_
    rintro e w1 ⟨rfl, hb⟩
    obtain ⟨x1, rfl⟩ := x0.next hb
    clear hb
    go_wp2
    go_ret
    exact ⟨rfl, HBl.out x1⟩
  have e1 : (k == 1) = false := by simpa using h1
  by_cases h2 : k = 2
  · subst h2
    have HA0 : Hid (ans = ((D && R) && (decide (0 ≤ findFeast f) && inB p 0 99))) := by unfold Hid; rw [HA.out, whnB_2, ← HD.out, ← HR.out]
    clear HD HR HFe
    generalize findFeast f = z at *
    generalize inB p 0 99 = B1 at *
    clear HA KI K12 K31
    cases D
    · obtain rfl : ans = false := by rw [HA0.out]; rfl
      go_wp2
      go_ret
      exact ⟨rfl, HBl.out x0⟩
    cases R
    · obtain rfl : ans = false := by rw [HA0.out]; rfl
      go_wp2
      go_ret
      exact ⟨rfl, HBl.out x0⟩
    by_cases hz : 0 ≤ z
    case neg =>
      obtain rfl : ans = false := by rw [HA0.out, decide_eq_false hz]; rfl
      go_wp2_with fail
      refine (KF _).mono ?_
      rintro e w1 ⟨rfl, hb⟩
      obtain ⟨x1, rfl⟩ := x0.next hb
      clear hb
      go_wp2
      go_ret
      exact ⟨rfl, HBl.out x1⟩
    obtain rfl : ans = B1 := by rw [HA0.out, decide_eq_true hz]; rfl
    go_wp2_with fail
    refine (KF _).mono ?_
    rintro e w1 ⟨rfl, hb⟩
    obtain ⟨x1, rfl⟩ := x0.next hb
    clear hb
    go_wp2_with fail
    refine (K99 _).mono ?_
    rintro e w2 ⟨rfl, rfl⟩
    go_wp2
    go_ret
    exact ⟨rfl, HBl.out x1⟩
  have e2 : (k == 2) = false := by simpa using h2
  obtain rfl : ans = false := HA.out.trans (whnB_no h0 h1 h2)
  go_wp2
  go_ret
  exact ⟨rfl, HBl.out x0⟩
end Go.Proofs.YtdgolaaheakfoaaGreatDoor.ctr
namespace Go.Proofs.YtdgolaaheakfoaaGreatDoor.ctr
open Go.RowKit
structure Say where
  whn : Whn
  year : Int
  sol : Int
  cal : Int
abbrev sayC (s : Say) : Array Value := #[.int .i64 s.whn.kind, .int .i64 s.whn.mon, .int .i64 s.whn.day, .int .i64 s.whn.rom.count, .int .i64 s.whn.rom.mark, .int .i64 s.whn.rom.month, .bool s.whn.rom.twice, .string s.whn.feast, .int .i64 s.whn.plus, .int .i64 s.year, .int .i64 s.sol, .int .i64 s.cal]
abbrev sayV (s : Say) : Value := .agg (sayC s)
def sayB (s : Say) : Bool := whnB s.whn && (inB s.year 1 3000 && ((s.sol == -1 || inB s.sol 1 3000) && (s.cal == -1 || calB s.cal)))
theorem implIsYear (y : Int) (w : World) : Calls Tryz.prog 83 #[.int .i64 y] w fun e w' => e = .returned (.bool (inB y 1 3000)) ∧ w' = w := by
  by_cases h1 : 1 ≤ y
  · by_cases h2 : y ≤ 3000
    · rw [inB_true h1 h2]
      go_enter Tryz.func83, Tryz.ntmps83
      go_wp2
      go_ret
      exact ⟨rfl, rfl⟩
    · rw [inB_false (.inr (by omega))]
      go_enter Tryz.func83, Tryz.ntmps83
      go_wp2
      go_ret
      exact ⟨rfl, rfl⟩
  · rw [inB_false (.inl (by omega))]
    go_enter Tryz.func83, Tryz.ntmps83
    go_wp2
    go_ret
    exact ⟨rfl, rfl⟩
set_option maxRecDepth 100000 in
set_option maxHeartbeats 4000000 in
theorem implSayingOk (s : Say) (w : World) (hT : Tab w) : Calls Tryz.prog 42 #[sayV s] w fun e w' => e = .returned (.bool (sayB s)) ∧ Below w.heap.size w w' := by
  obtain ⟨⟨k, m, d, ⟨a, b, c, t⟩, f, p⟩, y, so, ca⟩ := s
  obtain ⟨W0, hW0, hC, hBl⟩ := box_any w #[.int .i64 k, .int .i64 m, .int .i64 d, .int .i64 a, .int .i64 b, .int .i64 c, .bool t, .string f, .int .i64 p, .int .i64 y, .int .i64 so, .int .i64 ca] 46
  have c0 : ∀ x : Later W0, x.w.cell? ⟨w.heap.size, 0, none⟩ = some (.int .i64 k) := fun x => (hC x).cell 0 rfl
  have c1 : ∀ x : Later W0, x.w.cell? ⟨w.heap.size, 1, none⟩ = some (.int .i64 m) := fun x => (hC x).cell 1 rfl
  have c2 : ∀ x : Later W0, x.w.cell? ⟨w.heap.size, 2, none⟩ = some (.int .i64 d) := fun x => (hC x).cell 2 rfl
  have c3 : ∀ x : Later W0, x.w.cell? ⟨w.heap.size, 3, none⟩ = some (.int .i64 a) := fun x => (hC x).cell 3 rfl
  have c4 : ∀ x : Later W0, x.w.cell? ⟨w.heap.size, 4, none⟩ = some (.int .i64 b) := fun x => (hC x).cell 4 rfl
  have c5 : ∀ x : Later W0, x.w.cell? ⟨w.heap.size, 5, none⟩ = some (.int .i64 c) := fun x => (hC x).cell 5 rfl
  have c6 : ∀ x : Later W0, x.w.cell? ⟨w.heap.size, 6, none⟩ = some (.bool t) := fun x => (hC x).cell 6 rfl
  have c7 : ∀ x : Later W0, x.w.cell? ⟨w.heap.size, 7, none⟩ = some (.string f) := fun x => (hC x).cell 7 rfl
  have c8 : ∀ x : Later W0, x.w.cell? ⟨w.heap.size, 8, none⟩ = some (.int .i64 p) := fun x => (hC x).cell 8 rfl
  have c9 : ∀ x : Later W0, x.w.cell? ⟨w.heap.size, 9, none⟩ = some (.int .i64 y) := fun x => (hC x).cell 9 rfl
  have c10 : ∀ x : Later W0, x.w.cell? ⟨w.heap.size, 10, none⟩ = some (.int .i64 so) := fun x => (hC x).cell 10 rfl
  have c11 : ∀ x : Later W0, x.w.cell? ⟨w.heap.size, 11, none⟩ = some (.int .i64 ca) := fun x => (hC x).cell 11 rfl
  have HW0 := hideP hW0
  have HBl := hideP hBl
  have KO : ∀ x : Later W0, Calls Tryz.prog 82 #[.agg #[.int .i64 k, .int .i64 m, .int .i64 d, .int .i64 a, .int .i64 b, .int .i64 c, .bool t, .string f, .int .i64 p]] x.w fun e w' => e = .returned (.bool (whnB ⟨k, m, d, ⟨a, b, c, t⟩, f, p⟩)) ∧ Below x.w.heap.size x.w w' := fun x => implWhenOk ⟨k, m, d, ⟨a, b, c, t⟩, f, p⟩ x.w (hT.later (hBl x))
  have KY : ∀ W, Calls Tryz.prog 83 #[.int .i64 y] W fun e w' => e = .returned (.bool (inB y 1 3000)) ∧ w' = W := fun W => implIsYear y W
  have KS : ∀ W, Calls Tryz.prog 83 #[.int .i64 so] W fun e w' => e = .returned (.bool (inB so 1 3000)) ∧ w' = W := fun W => implIsYear so W
  obtain ⟨ans, hans⟩ : ∃ ans, ans = sayB ⟨⟨k, m, d, ⟨a, b, c, t⟩, f, p⟩, y, so, ca⟩ := ⟨_, rfl⟩
  rw [← hans]
  have HA : Hid (ans = (whnB ⟨k, m, d, ⟨a, b, c, t⟩, f, p⟩ && (inB y 1 3000 && ((so == -1 || inB so 1 3000) && (ca == -1 || calB ca))))) := hans
  generalize whnB ⟨k, m, d, ⟨a, b, c, t⟩, f, p⟩ = B at *
  generalize inB y 1 3000 = Y at *
  generalize inB so 1 3000 = Q at *
  clear hW0 hC hBl hans hT
  cases B
  · obtain rfl : ans = false := HA.out.trans rfl
    go_enter Tryz.func42, Tryz.ntmps42
    go_wp2_with fail
    rw [← HW0.out]
    refine (KO ⟨W0, Below.refl _ _⟩).mono ?_
    rintro e w1 ⟨rfl, hb⟩
    obtain ⟨x1, rfl⟩ := Later.of hb
    clear hb
    go_wp2
    go_ret
    exact ⟨rfl, HBl.out x1⟩
  cases Y
  · obtain rfl : ans = false := HA.out.trans rfl
    go_enter Tryz.func42, Tryz.ntmps42
    go_wp2_with fail
    rw [← HW0.out]
    refine (KO ⟨W0, Below.refl _ _⟩).mono ?_
    rintro e w1 ⟨rfl, hb⟩
    obtain ⟨x1, rfl⟩ := Later.of hb
    clear hb
    go_wp2_with fail
    refine (KY _).mono ?_
    rintro e wz ⟨rfl, rfl⟩
    go_wp2
    go_ret
    exact ⟨rfl, HBl.out x1⟩
  by_cases s1 : so = -1
  · subst s1
    by_cases z1 : ca = -1
    · subst z1
      obtain rfl : ans = true := HA.out.trans (by first | rfl | simp)
      go_enter Tryz.func42, Tryz.ntmps42
      go_wp2_with fail
      rw [← HW0.out]
      refine (KO ⟨W0, Below.refl _ _⟩).mono ?_
      rintro e w1 ⟨rfl, hb⟩
      obtain ⟨x1, rfl⟩ := Later.of hb
      clear hb
      go_wp2_with fail
      refine (KY _).mono ?_
      rintro e wz ⟨rfl, rfl⟩
      go_wp2
      go_ret
      exact ⟨rfl, HBl.out x1⟩
    have e2 : (ca == -1) = false := by simpa using z1
    by_cases z2 : ca = 0 ∨ ca = 1
    · have KC : ∀ W, Calls Tryz.prog 84 #[.int .i64 ca] W fun e w' => e = .returned (.iface (calT ca) (.agg #[])) ∧ w' = W := fun W => implCal ca z2 W
      obtain rfl : ans = true := HA.out.trans (by rw [e2, (show calB ca = true by unfold calB; rcases z2 with h | h <;> simp [h])]; first | rfl | simp)
      generalize calT ca = ct at *
      clear HA z2
      go_enter Tryz.func42, Tryz.ntmps42
      go_wp2_with fail
      rw [← HW0.out]
      refine (KO ⟨W0, Below.refl _ _⟩).mono ?_
      rintro e w1 ⟨rfl, hb⟩
      obtain ⟨x1, rfl⟩ := Later.of hb
      clear hb
      go_wp2_with fail
      refine (KY _).mono ?_
      rintro e wz ⟨rfl, rfl⟩
      go_wp2_with fail
      refine (KC _).mono ?_
      rintro e wz ⟨rfl, rfl⟩
      go_wp2
      go_ret
      exact ⟨rfl, HBl.out x1⟩
    have KC : ∀ W, Calls Tryz.prog 84 #[.int .i64 ca] W fun e w' => e = .returned .nilIface ∧ w' = W := fun W => implCalNo ca (fun h => z2 (.inl h)) (fun h => z2 (.inr h)) W
    obtain rfl : ans = false := HA.out.trans (by rw [e2, calB_no (by omega)]; first | rfl | simp)
    clear HA z2
    go_enter Tryz.func42, Tryz.ntmps42
    go_wp2_with fail
    rw [← HW0.out]
    refine (KO ⟨W0, Below.refl _ _⟩).mono ?_
    rintro e w1 ⟨rfl, hb⟩
    obtain ⟨x1, rfl⟩ := Later.of hb
    clear hb
    go_wp2_with fail
    refine (KY _).mono ?_
    rintro e wz ⟨rfl, rfl⟩
    go_wp2_with fail
    refine (KC _).mono ?_
    rintro e wz ⟨rfl, rfl⟩
    go_wp2
    go_ret
    exact ⟨rfl, HBl.out x1⟩
  have e1 : (so == -1) = false := by simpa using s1
  cases Q
  · obtain rfl : ans = false := HA.out.trans (by rw [e1]; rfl)
    go_enter Tryz.func42, Tryz.ntmps42
    go_wp2_with fail
    rw [← HW0.out]
    refine (KO ⟨W0, Below.refl _ _⟩).mono ?_
    rintro e w1 ⟨rfl, hb⟩
    obtain ⟨x1, rfl⟩ := Later.of hb
    clear hb
    go_wp2_with fail
    refine (KY _).mono ?_
    rintro e wz ⟨rfl, rfl⟩
    go_wp2_with fail
    refine (KS _).mono ?_
    rintro e wz ⟨rfl, rfl⟩
    go_wp2
    go_ret
    exact ⟨rfl, HBl.out x1⟩
  rw [e1] at HA
  by_cases z1 : ca = -1
  · subst z1
    obtain rfl : ans = true := HA.out.trans (by first | rfl | simp)
    go_enter Tryz.func42, Tryz.ntmps42
    go_wp2_with fail
    rw [← HW0.out]
    refine (KO ⟨W0, Below.refl _ _⟩).mono ?_
    rintro e w1 ⟨rfl, hb⟩
    obtain ⟨x1, rfl⟩ := Later.of hb
    clear hb
    go_wp2_with fail
    refine (KY _).mono ?_
    rintro e wz ⟨rfl, rfl⟩
    go_wp2_with fail
    refine (KS _).mono ?_
    rintro e wz ⟨rfl, rfl⟩
    go_wp2
    go_ret
    exact ⟨rfl, HBl.out x1⟩
  have e2 : (ca == -1) = false := by simpa using z1
  by_cases z2 : ca = 0 ∨ ca = 1
  · have KC : ∀ W, Calls Tryz.prog 84 #[.int .i64 ca] W fun e w' => e = .returned (.iface (calT ca) (.agg #[])) ∧ w' = W := fun W => implCal ca z2 W
    obtain rfl : ans = true := HA.out.trans (by rw [e2, (show calB ca = true by unfold calB; rcases z2 with h | h <;> simp [h])]; first | rfl | simp)
    generalize calT ca = ct at *
    clear HA z2
    go_enter Tryz.func42, Tryz.ntmps42
    go_wp2_with fail
    rw [← HW0.out]
    refine (KO ⟨W0, Below.refl _ _⟩).mono ?_
    rintro e w1 ⟨rfl, hb⟩
    obtain ⟨x1, rfl⟩ := Later.of hb
    clear hb
    go_wp2_with fail
    refine (KY _).mono ?_
    rintro e wz ⟨rfl, rfl⟩
    go_wp2_with fail
    refine (KS _).mono ?_
    rintro e wz ⟨rfl, rfl⟩
    go_wp2_with fail
    refine (KC _).mono ?_
    rintro e wz ⟨rfl, rfl⟩
    go_wp2
    go_ret
    exact ⟨rfl, HBl.out x1⟩
  have KC : ∀ W, Calls Tryz.prog 84 #[.int .i64 ca] W fun e w' => e = .returned .nilIface ∧ w' = W := fun W => implCalNo ca (fun h => z2 (.inl h)) (fun h => z2 (.inr h)) W
  obtain rfl : ans = false := HA.out.trans (by rw [e2, calB_no (by omega)]; first | rfl | simp)
  clear HA z2
  go_enter Tryz.func42, Tryz.ntmps42
  go_wp2_with fail
  rw [← HW0.out]
  refine (KO ⟨W0, Below.refl _ _⟩).mono ?_
  rintro e w1 ⟨rfl, hb⟩
  obtain ⟨x1, rfl⟩ := Later.of hb
  clear hb
  go_wp2_with fail
  refine (KY _).mono ?_
  rintro e wz ⟨rfl, rfl⟩
  go_wp2_with fail
  refine (KS _).mono ?_
  rintro e wz ⟨rfl, rfl⟩
  go_wp2_with fail
  refine (KC _).mono ?_
  rintro e wz ⟨rfl, rfl⟩
  go_wp2
  go_ret
  exact ⟨rfl, HBl.out x1⟩
set_option maxRecDepth 100000 in
set_option maxHeartbeats 4000000 in
theorem specSayingOk (s : Say) (w : World) : Calls Tryz.prog 35 #[sayV s] w fun e w' => e = .returned (.bool (sayB s)) ∧ Below w.heap.size w w' := by
  obtain ⟨⟨k, m, d, ⟨a, b, c, t⟩, f, p⟩, y, so, ca⟩ := s
  obtain ⟨W0, hW0, hC, hBl⟩ := box_any w #[.int .i64 k, .int .i64 m, .int .i64 d, .int .i64 a, .int .i64 b, .int .i64 c, .bool t, .string f, .int .i64 p, .int .i64 y, .int .i64 so, .int .i64 ca] 46
  have c0 : ∀ x : Later W0, x.w.cell? ⟨w.heap.size, 0, none⟩ = some (.int .i64 k) := fun x => (hC x).cell 0 rfl
  have c1 : ∀ x : Later W0, x.w.cell? ⟨w.heap.size, 1, none⟩ = some (.int .i64 m) := fun x => (hC x).cell 1 rfl
  have c2 : ∀ x : Later W0, x.w.cell? ⟨w.heap.size, 2, none⟩ = some (.int .i64 d) := fun x => (hC x).cell 2 rfl
  have c3 : ∀ x : Later W0, x.w.cell? ⟨w.heap.size, 3, none⟩ = some (.int .i64 a) := fun x => (hC x).cell 3 rfl
  have c4 : ∀ x : Later W0, x.w.cell? ⟨w.heap.size, 4, none⟩ = some (.int .i64 b) := fun x => (hC x).cell 4 rfl
  have c5 : ∀ x : Later W0, x.w.cell? ⟨w.heap.size, 5, none⟩ = some (.int .i64 c) := fun x => (hC x).cell 5 rfl
  have c6 : ∀ x : Later W0, x.w.cell? ⟨w.heap.size, 6, none⟩ = some (.bool t) := fun x => (hC x).cell 6 rfl
  have c7 : ∀ x : Later W0, x.w.cell? ⟨w.heap.size, 7, none⟩ = some (.string f) := fun x => (hC x).cell 7 rfl
  have c8 : ∀ x : Later W0, x.w.cell? ⟨w.heap.size, 8, none⟩ = some (.int .i64 p) := fun x => (hC x).cell 8 rfl
  have c9 : ∀ x : Later W0, x.w.cell? ⟨w.heap.size, 9, none⟩ = some (.int .i64 y) := fun x => (hC x).cell 9 rfl
  have c10 : ∀ x : Later W0, x.w.cell? ⟨w.heap.size, 10, none⟩ = some (.int .i64 so) := fun x => (hC x).cell 10 rfl
  have c11 : ∀ x : Later W0, x.w.cell? ⟨w.heap.size, 11, none⟩ = some (.int .i64 ca) := fun x => (hC x).cell 11 rfl
  have HW0 := hideP hW0
  have HBl := hideP hBl
  have KO : ∀ x : Later W0, Calls Tryz.prog 74 #[.agg #[.int .i64 k, .int .i64 m, .int .i64 d, .int .i64 a, .int .i64 b, .int .i64 c, .bool t, .string f, .int .i64 p]] x.w fun e w' => e = .returned (.bool (whnB ⟨k, m, d, ⟨a, b, c, t⟩, f, p⟩)) ∧ Below x.w.heap.size x.w w' := fun x => specWhenOk ⟨k, m, d, ⟨a, b, c, t⟩, f, p⟩ x.w
  have KY : ∀ W, Calls Tryz.prog 54 #[.int .i64 y, .int .i64 1, .int .i64 3000] W fun e w' => e = .returned (.bool (inB y 1 3000)) ∧ w' = W := fun W => l01In y 1 3000 W
  have KS : ∀ W, Calls Tryz.prog 54 #[.int .i64 so, .int .i64 1, .int .i64 3000] W fun e w' => e = .returned (.bool (inB so 1 3000)) ∧ w' = W := fun W => l01In so 1 3000 W
  have KC : ∀ W, Calls Tryz.prog 75 #[.int .i64 ca] W fun e w' => e = .returned (.bool (calB ca)) ∧ w' = W := fun W => specCal ca W
  obtain ⟨ans, hans⟩ : ∃ ans, ans = sayB ⟨⟨k, m, d, ⟨a, b, c, t⟩, f, p⟩, y, so, ca⟩ := ⟨_, rfl⟩
  rw [← hans]
  have HA : Hid (ans = (whnB ⟨k, m, d, ⟨a, b, c, t⟩, f, p⟩ && (inB y 1 3000 && ((so == -1 || inB so 1 3000) && (ca == -1 || calB ca))))) := hans
  generalize whnB ⟨k, m, d, ⟨a, b, c, t⟩, f, p⟩ = B at *
  generalize inB y 1 3000 = Y at *
  generalize inB so 1 3000 = Q at *
  generalize calB ca = C at *
  clear hW0 hC hBl hans
  cases B
  · obtain rfl : ans = false := HA.out.trans rfl
    go_enter Tryz.func35, Tryz.ntmps35
    go_wp2_with fail
    rw [← HW0.out]
    refine (KO ⟨W0, Below.refl _ _⟩).mono ?_
    rintro e w1 ⟨rfl, hb⟩
    obtain ⟨x1, rfl⟩ := Later.of hb
    clear hb
    go_wp2
    go_ret
    exact ⟨rfl, HBl.out x1⟩
  cases Y
  · obtain rfl : ans = false := HA.out.trans rfl
    go_enter Tryz.func35, Tryz.ntmps35
    go_wp2_with fail
    rw [← HW0.out]
    refine (KO ⟨W0, Below.refl _ _⟩).mono ?_
    rintro e w1 ⟨rfl, hb⟩
    obtain ⟨x1, rfl⟩ := Later.of hb
    clear hb
    go_wp2_with fail
    refine (KY _).mono ?_
    rintro e wz ⟨rfl, rfl⟩
    go_wp2
    go_ret
    exact ⟨rfl, HBl.out x1⟩
  by_cases s1 : so = -1
  · subst s1
    by_cases z1 : ca = -1
    · subst z1
      obtain rfl : ans = true := HA.out.trans (by first | rfl | simp)
      go_enter Tryz.func35, Tryz.ntmps35
      go_wp2_with fail
      rw [← HW0.out]
      refine (KO ⟨W0, Below.refl _ _⟩).mono ?_
      rintro e w1 ⟨rfl, hb⟩
      obtain ⟨x1, rfl⟩ := Later.of hb
      clear hb
      go_wp2_with fail
      refine (KY _).mono ?_
      rintro e wz ⟨rfl, rfl⟩
      go_wp2
      go_ret
      exact ⟨rfl, HBl.out x1⟩
    have e2 : (ca == -1) = false := by simpa using z1
    obtain rfl : ans = C := HA.out.trans (by rw [e2]; first | rfl | simp)
    go_enter Tryz.func35, Tryz.ntmps35
    go_wp2_with fail
    rw [← HW0.out]
    refine (KO ⟨W0, Below.refl _ _⟩).mono ?_
    rintro e w1 ⟨rfl, hb⟩
    obtain ⟨x1, rfl⟩ := Later.of hb
    clear hb
    go_wp2_with fail
    refine (KY _).mono ?_
    rintro e wz ⟨rfl, rfl⟩
    go_wp2_with fail
    refine (KC _).mono ?_
    rintro e wz ⟨rfl, rfl⟩
    go_wp2
    go_ret
    exact ⟨rfl, HBl.out x1⟩
  have e1 : (so == -1) = false := by simpa using s1
  cases Q
  · obtain rfl : ans = false := HA.out.trans (by rw [e1]; rfl)
    go_enter Tryz.func35, Tryz.ntmps35
    go_wp2_with fail
    rw [← HW0.out]
    refine (KO ⟨W0, Below.refl _ _⟩).mono ?_
    rintro e w1 ⟨rfl, hb⟩
    obtain ⟨x1, rfl⟩ := Later.of hb
    clear hb
    go_wp2_with fail
    refine (KY _).mono ?_
    rintro e wz ⟨rfl, rfl⟩
    go_wp2_with fail
    refine (KS _).mono ?_
    rintro e wz ⟨rfl, rfl⟩
    go_wp2
    go_ret
    exact ⟨rfl, HBl.out x1⟩
  rw [e1] at HA
  by_cases z1 : ca = -1
  · subst z1
    obtain rfl : ans = true := HA.out.trans (by first | rfl | simp)
    go_enter Tryz.func35, Tryz.ntmps35
    go_wp2_with fail
    rw [← HW0.out]
    refine (KO ⟨W0, Below.refl _ _⟩).mono ?_
    rintro e w1 ⟨rfl, hb⟩
    obtain ⟨x1, rfl⟩ := Later.of hb
    clear hb
    go_wp2_with fail
    refine (KY _).mono ?_
    rintro e wz ⟨rfl, rfl⟩
    go_wp2_with fail
    refine (KS _).mono ?_
    rintro e wz ⟨rfl, rfl⟩
    go_wp2
    go_ret
    exact ⟨rfl, HBl.out x1⟩
  have e2 : (ca == -1) = false := by simpa using z1
  obtain rfl : ans = C := HA.out.trans (by rw [e2]; first | rfl | simp)
  go_enter Tryz.func35, Tryz.ntmps35
  go_wp2_with fail
  rw [← HW0.out]
  refine (KO ⟨W0, Below.refl _ _⟩).mono ?_
  rintro e w1 ⟨rfl, hb⟩
  obtain ⟨x1, rfl⟩ := Later.of hb
  clear hb
  go_wp2_with fail
  refine (KY _).mono ?_
  rintro e wz ⟨rfl, rfl⟩
  go_wp2_with fail
  refine (KS _).mono ?_
  rintro e wz ⟨rfl, rfl⟩
  go_wp2_with fail
  refine (KC _).mono ?_
  rintro e wz ⟨rfl, rfl⟩
  go_wp2
  go_ret
  exact ⟨rfl, HBl.out x1⟩
end Go.Proofs.YtdgolaaheakfoaaGreatDoor.ctr
namespace Go.Proofs.YtdgolaaheakfoaaGreatDoor.ctr
open Go.RowKit
set_option maxHeartbeats 1000000 in
theorem specFeaDay (c y : Int) (s : ByteArray) (mv : Bool) (o m d : Int) (w : World) (hs : s.size ≤ maxLen) : Calls Tryz.prog 119 #[.int .i64 c, .int .i64 y, .agg #[.string s, .bool mv, .int .i64 o, .int .i64 m, .int .i64 d]] w fun e w' => e = .returned (.int .i64 (feaDay c y s mv o m d)) ∧ Below w.heap.size w w' := by
  have KO : ∀ W, Calls Tryz.prog 146 #[.agg #[.string s, .bool mv, .int .i64 o, .int .i64 m, .int .i64 d]] W fun e w' => e = .returned (.bool (feaOk s mv o m d)) ∧ Below W.heap.size W w' := fun W => specFeaOk s mv o m d W hs
  have KY : ∀ W, Calls Tryz.prog 147 #[.int .i64 c, .int .i64 y] W fun e w' => e = .returned (.bool (yearB c y)) ∧ w' = W := specYearOk c y
  obtain ⟨W0, hW0, c0, c1, c2, c3, c4, hBl⟩ := fea_box w s mv o m d 159
  have HW0 := hideP hW0
  have HBl := hideP hBl
  clear hs hW0 hBl
  cases hok : feaOk s mv o m d
  · have HR := hideP (feaDay_no (c := c) (y := y) hok)
    rw [hok] at KO
    clear hok
    go_enter Tryz.func119, Tryz.ntmps119
    go_wp2_with fail
    rw [← HW0.out]
    refine (KO _).mono ?_
    rintro e w1 ⟨rfl, hb⟩
    obtain ⟨x1, rfl⟩ := Later.of hb
    clear hb
    go_wp2
    go_ret
    exact ⟨ret_int HR.out.symm, HBl.out x1⟩
  by_cases hy : yearP c y
  case neg =>
    have HR := hideP (feaDay_noYear (s := s) (mv := mv) (o := o) (m := m) (d := d) hy)
    rw [hok] at KO
    simp only [yearB_false hy] at KY
    clear hok
    go_enter Tryz.func119, Tryz.ntmps119
    go_wp2_with fail
    rw [← HW0.out]
    refine (KO _).mono ?_
    rintro e w1 ⟨rfl, hb⟩
    obtain ⟨x1, rfl⟩ := Later.of hb
    clear hb
    go_wp2_with fail
    refine (KY _).mono ?_
    rintro e w2 ⟨rfl, rfl⟩
    go_wp2
    go_ret
    exact ⟨ret_int HR.out.symm, HBl.out x1⟩
  simp only [yearB_true hy] at KY
  cases mv
  · have HR : Hid (feaDay c y s false o m d = first c y + before c y (m - 1).toNat + d - 1) := (feaDay_fix hok hy).trans (fixed_day hy (ok_fix hok))
    have hdt := fixed_date hy (ok_fix hok)
    have hm := dateP_month hdt
    have hd := dateP_day hdt
    have KD : ∀ W, Calls Tryz.prog 100 #[.int .i64 c, .int .i64 y, .int .i64 m, .int .i64 d] W fun e w' => e = .returned (.int .i64 (first c y + before c y (m - 1).toNat + d - 1)) ∧ Below W.heap.size W w' := fun W => specDay c y m d W hy.1 (by have := hy.2.1; omega) (by have := hy.2.2; omega) (by omega) (by omega) (by omega)
    rw [hok] at KO
    rw [HR.out]
    clear hok hdt hm hd hy HR
    generalize first c y + before c y (m - 1).toNat + d - 1 = R at *
    go_enter Tryz.func119, Tryz.ntmps119
    go_wp2_with fail
    rw [← HW0.out]
    refine (KO _).mono ?_
    rintro e w1 ⟨rfl, hb⟩
    obtain ⟨x1, rfl⟩ := Later.of hb
    clear hb
    go_wp2_with fail
    refine (KY _).mono ?_
    rintro e w2 ⟨rfl, rfl⟩
    go_wp2_with fail
    refine (KD _).mono ?_
    rintro e w2 ⟨rfl, hb⟩
    obtain ⟨x2, rfl⟩ := x1.next hb
    clear hb
    go_wp2
    go_ret
    exact ⟨rfl, HBl.out x2⟩
  · have HR : Hid (feaDay c y s true o m d = easter c y + o) := feaDay_mv hok hy
    have hb1 := easter_near hy
    have hb2 := ok_mv hok
    have KE : ∀ W, Calls Tryz.prog 148 #[.int .i64 c, .int .i64 y] W fun e w' => e = .returned (.int .i64 (easter c y)) ∧ Below W.heap.size W w' := specEaster c y
    rw [hok] at KO
    rw [HR.out]
    clear hok hy HR
    generalize easter c y = E at *
    go_enter Tryz.func119, Tryz.ntmps119
    go_wp2_with fail
    rw [← HW0.out]
    refine (KO _).mono ?_
    rintro e w1 ⟨rfl, hb⟩
    obtain ⟨x1, rfl⟩ := Later.of hb
    clear hb
    go_wp2_with fail
    refine (KY _).mono ?_
    rintro e w2 ⟨rfl, rfl⟩
    go_wp2_with fail
    refine wp_region_later (W := W0) x1.below (by kernel_rfl) (by kernel_rfl) ?_
    repeat (go_big_quiet_step (first | (go_at_call 148; exact calls_later (KE _))))
    refine wpQuiet_nil ?_
    intro _ hw'
    obtain ⟨x, rfl⟩ := hw'
    go_wp2
    go_ret
    exact ⟨ret_int (by first | rfl | (unfold wrap64; omega)), HBl.out x⟩
set_option maxHeartbeats 1000000 in
theorem implMovDay (c y : Int) (s : ByteArray) (o m d : Int) (w : World) (hT : Tab w) (hy : yearP c y) (h1 : -63 ≤ o) (h2 : o ≤ 63) : Calls Tryz.prog 251 #[.agg #[.string s, .bool true, .int .i64 o, .int .i64 m, .int .i64 d], .int .i64 c, .int .i64 y] w fun e w' => e = .returned (.int .i64 (easter c y + o)) ∧ Below w.heap.size w w' := by
  obtain ⟨W0, hW0, c0, c1, c2, c3, c4, hBl⟩ := fea_box w s true o m d 214
  have HW0 := hideP hW0
  have HBl := hideP hBl
  have KE : ∀ x : Later W0, Calls Tryz.prog 255 #[.int .i64 c, .int .i64 y] x.w fun e w' => e = .returned (.int .i64 (easter c y)) ∧ Below x.w.heap.size x.w w' := fun x => implEaster c y x.w (hT.later (HBl.out x))
  have hb1 := easter_near hy
  clear hW0 hBl hT hy
  generalize easter c y = E at *
  go_enter Tryz.func251, Tryz.ntmps251
  go_wp2_with fail
  rw [← HW0.out]
  refine wp_region_later (W := W0) (Below.refl _ _) (by kernel_rfl) (by kernel_rfl) ?_
  repeat (go_big_quiet_step (first | (go_at_call 255; exact calls_later (KE _))))
  refine wpQuiet_nil ?_
  intro _ hw'
  obtain ⟨x, rfl⟩ := hw'
  go_wp2
  go_ret
  exact ⟨ret_int (by first | rfl | (unfold wrap64; omega)), HBl.out x⟩
set_option maxHeartbeats 1000000 in
theorem implFixDay (c y : Int) (s : ByteArray) (o m d : Int) (w : World) (hT : Tab w) : Calls Tryz.prog 223 #[.agg #[.string s, .bool false, .int .i64 o, .int .i64 m, .int .i64 d], .int .i64 c, .int .i64 y] w fun e w' => e = .returned (.int .i64 (dayOf c y m d)) ∧ Below w.heap.size w w' := by
  obtain ⟨W0, hW0, c0, c1, c2, c3, c4, hBl⟩ := fea_box w s false o m d 159
  have HW0 := hideP hW0
  have HBl := hideP hBl
  have KI : ∀ W, Calls Tryz.prog 252 #[.agg #[.string s, .bool false, .int .i64 o, .int .i64 m, .int .i64 d], .int .i64 c, .int .i64 y] W fun e w' => e = .returned (.agg #[.int .i64 c, .int .i64 y, .int .i64 m, .int .i64 d]) ∧ Below W.heap.size W w' := implDateIn s false o m d c y
  have KD : ∀ x : Later W0, Calls Tryz.prog 110 #[.agg #[.int .i64 c, .int .i64 y, .int .i64 m, .int .i64 d]] x.w fun e w' => e = .returned (.int .i64 (dayOf c y m d)) ∧ Below x.w.heap.size x.w w' := fun x => implDayOf c y m d x.w (hT.later (HBl.out x))
  clear hW0 hBl hT
  generalize dayOf c y m d = R at *
  go_enter Tryz.func223, Tryz.ntmps223
  go_wp2_with fail
  rw [← HW0.out]
  refine (KI _).mono ?_
  rintro e w1 ⟨rfl, hb⟩
  obtain ⟨x1, rfl⟩ := Later.of hb
  clear hb
  go_wp2_with fail
  refine (KD _).mono ?_
  rintro e w2 ⟨rfl, hb⟩
  obtain ⟨x2, rfl⟩ := x1.next hb
  clear hb
  go_wp2
  go_ret
  exact ⟨rfl, HBl.out x2⟩
set_option maxHeartbeats 1000000 in
theorem implFeaDay (c y : Int) (s : ByteArray) (mv : Bool) (o m d : Int) (w : World) (hs : s.size ≤ maxLen) (hT : Tab w) : Calls Tryz.prog 248 #[.int .i64 c, .int .i64 y, .agg #[.string s, .bool mv, .int .i64 o, .int .i64 m, .int .i64 d]] w fun e w' => e = .returned (.int .i64 (feaDay c y s mv o m d)) ∧ Below w.heap.size w w' := by
  obtain ⟨W0, hW0, c0, c1, c2, c3, c4, hBl⟩ := fea_box w s mv o m d 159
  have KT : ∀ x : Later W0, Tab x.w := fun x => hT.later (hBl x)
  obtain ⟨x0, hx0⟩ := Later.of (Below.refl W0.heap.size W0)
  have KO : Calls Tryz.prog 249 #[.agg #[.string s, .bool mv, .int .i64 o, .int .i64 m, .int .i64 d]] W0 fun e w' => e = .returned (.bool (feaOk s mv o m d)) ∧ Below W0.heap.size W0 w' := implFeaOk s mv o m d W0 hs (by rw [hx0]; exact KT x0)
  have KY : ∀ x : Later W0, Calls Tryz.prog 250 #[.int .i64 c, .int .i64 y] x.w fun e w' => e = .returned (.bool (yearB c y)) ∧ Below x.w.heap.size x.w w' := fun x => implYearOk c y x.w (KT x)
  have HW0 := hideP hW0
  have HBl := hideP hBl
  clear hs hW0 hBl hT hx0 x0
  cases hok : feaOk s mv o m d
  · have HR := hideP (feaDay_no (c := c) (y := y) hok)
    rw [hok] at KO
    clear hok KT
    go_enter Tryz.func248, Tryz.ntmps248
    go_wp2_with fail
    rw [← HW0.out]
    refine KO.mono ?_
    rintro e w1 ⟨rfl, hb⟩
    obtain ⟨x1, rfl⟩ := Later.of hb
    clear hb
    go_wp2
    go_ret
    exact ⟨ret_int HR.out.symm, HBl.out x1⟩
  by_cases hy : yearP c y
  case neg =>
    have HR := hideP (feaDay_noYear (s := s) (mv := mv) (o := o) (m := m) (d := d) hy)
    rw [hok] at KO
    simp only [yearB_false hy] at KY
    clear hok KT
    go_enter Tryz.func248, Tryz.ntmps248
    go_wp2_with fail
    rw [← HW0.out]
    refine KO.mono ?_
    rintro e w1 ⟨rfl, hb⟩
    obtain ⟨x1, rfl⟩ := Later.of hb
    clear hb
    go_wp2_with fail
    refine (KY x1).mono ?_
    rintro e w2 ⟨rfl, hb⟩
    obtain ⟨x2, rfl⟩ := x1.next hb
    clear hb
    go_wp2
    go_ret
    exact ⟨ret_int HR.out.symm, HBl.out x2⟩
  simp only [yearB_true hy] at KY
  cases mv
  · have HR : Hid (feaDay c y s false o m d = dayOf c y m d) := feaDay_fix hok hy
    have KD : ∀ x : Later W0, Calls Tryz.prog 223 #[.agg #[.string s, .bool false, .int .i64 o, .int .i64 m, .int .i64 d], .int .i64 c, .int .i64 y] x.w fun e w' => e = .returned (.int .i64 (dayOf c y m d)) ∧ Below x.w.heap.size x.w w' := fun x => implFixDay c y s o m d x.w (KT x)
    rw [hok] at KO
    rw [HR.out]
    clear hok hy HR KT
    generalize dayOf c y m d = R at *
    go_enter Tryz.func248, Tryz.ntmps248
    go_wp2_with fail
    rw [← HW0.out]
    refine KO.mono ?_
    rintro e w1 ⟨rfl, hb⟩
    obtain ⟨x1, rfl⟩ := Later.of hb
    clear hb
    go_wp2_with fail
    refine (KY x1).mono ?_
    rintro e w2 ⟨rfl, hb⟩
    obtain ⟨x2, rfl⟩ := x1.next hb
    clear hb
    go_wp2_with fail
    refine (KD x2).mono ?_
    rintro e w3 ⟨rfl, hb⟩
    obtain ⟨x3, rfl⟩ := x2.next hb
    clear hb
    go_wp2
    go_ret
    exact ⟨rfl, HBl.out x3⟩
  · have HR : Hid (feaDay c y s true o m d = easter c y + o) := feaDay_mv hok hy
    have hb2 := ok_mv hok
    have KD : ∀ x : Later W0, Calls Tryz.prog 251 #[.agg #[.string s, .bool true, .int .i64 o, .int .i64 m, .int .i64 d], .int .i64 c, .int .i64 y] x.w fun e w' => e = .returned (.int .i64 (easter c y + o)) ∧ Below x.w.heap.size x.w w' := fun x => implMovDay c y s o m d x.w (KT x) hy hb2.1 hb2.2
    rw [hok] at KO
    rw [HR.out]
    clear hok hy HR KT hb2
    generalize easter c y + o = R at *
    go_enter Tryz.func248, Tryz.ntmps248
    go_wp2_with fail
    rw [← HW0.out]
    refine KO.mono ?_
    rintro e w1 ⟨rfl, hb⟩
    obtain ⟨x1, rfl⟩ := Later.of hb
    clear hb
    go_wp2_with fail
    refine (KY x1).mono ?_
    rintro e w2 ⟨rfl, hb⟩
    obtain ⟨x2, rfl⟩ := x1.next hb
    clear hb
    go_wp2_with fail
    refine (KD x2).mono ?_
    rintro e w3 ⟨rfl, hb⟩
    obtain ⟨x3, rfl⟩ := x2.next hb
    clear hb
    go_wp2
    go_ret
    exact ⟨rfl, HBl.out x3⟩
end Go.Proofs.YtdgolaaheakfoaaGreatDoor.ctr
