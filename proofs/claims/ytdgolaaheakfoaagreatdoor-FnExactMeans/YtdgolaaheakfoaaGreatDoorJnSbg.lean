/- Contracts of both Nones and Ides, and of the program's markDay, monthBehind, monthAhead: each answers its plain function and writes nothing. A scope that is left by a goto ahead; a date's box with a result's box behind it; regions that draw their order and end in a store. Contract of the model's RomanOf: it answers its plain function. -/
import Derived.Test.YtdgolaaheakfoaaGreatDoorJnSbf
import Derived.Test.YtdgolaaheakfoaaGreatDoorJnSaa
import Derived.Test.YtdgolaaheakfoaaGreatDoorJnSar
import Derived.Test.YtdgolaaheakfoaaGreatDoorJnSad
import Derived.ScopeJumps
import Derived.WalkMore
import Derived.Deep.DeepCutAuto
namespace Go.Proofs.YtdgolaaheakfoaaGreatDoor.ctr
open Go.RowKit
theorem nones_no {m : Int} (h : m < 1 ∨ 12 < m) : nones m = 0 := by unfold nones; rw [if_neg (by omega)]
theorem ides_no {m : Int} (h : m < 1 ∨ 12 < m) : ides m = 0 := by unfold ides; rw [if_neg (by omega)]
set_option maxHeartbeats 1000000 in
theorem specNones (m : Int) (w : World) : Calls Tryz.prog 144 #[.int .i64 m] w fun e w' => e = .returned (.int .i64 (nones m)) ∧ w' = w := by
  have KI : ∀ W, Calls Tryz.prog 54 #[.int .i64 m, .int .i64 1, .int .i64 12] W fun e w' => e = .returned (.bool (inB m 1 12)) ∧ w' = W := l01In m 1 12
  by_cases h : 1 ≤ m ∧ m ≤ 12
  case neg =>
    rw [nones_no (by omega)]
    rw [inB_false (by omega)] at KI
    go_enter Tryz.func144, Tryz.ntmps144
    go_wp2_with fail
    refine (KI _).mono ?_
    rintro e w1 ⟨rfl, rfl⟩
    go_wp2
    go_ret
    exact ⟨rfl, rfl⟩
  obtain ⟨h1, h2⟩ := h
  rw [inB_true h1 h2] at KI
  rcases month_cases h1 h2 with rfl | rfl | rfl | rfl | rfl | rfl | rfl | rfl | rfl | rfl | rfl | rfl
  all_goals
    go_enter Tryz.func144, Tryz.ntmps144
    go_wp2_with fail
    refine (KI _).mono ?_
    rintro e w1 ⟨rfl, rfl⟩
    go_wp2
    go_ret
    exact ⟨rfl, rfl⟩
set_option maxHeartbeats 1000000 in
theorem specIdes (m : Int) (w : World) : Calls Tryz.prog 145 #[.int .i64 m] w fun e w' => e = .returned (.int .i64 (ides m)) ∧ w' = w := by
  have KI : ∀ W, Calls Tryz.prog 54 #[.int .i64 m, .int .i64 1, .int .i64 12] W fun e w' => e = .returned (.bool (inB m 1 12)) ∧ w' = W := l01In m 1 12
  have KN : ∀ W, Calls Tryz.prog 144 #[.int .i64 m] W fun e w' => e = .returned (.int .i64 (nones m)) ∧ w' = W := specNones m
  have hb := nones_b m
  by_cases h : 1 ≤ m ∧ m ≤ 12
  · rw [ides_in h.1 h.2]
    rw [inB_true h.1 h.2] at KI
    generalize nones m = n at *
    go_enter Tryz.func145, Tryz.ntmps145
    go_wp2_with fail
    refine (KI _).mono ?_
    rintro e w1 ⟨rfl, rfl⟩
    go_wp2_with fail
    refine (KN _).mono ?_
    rintro e w1 ⟨rfl, rfl⟩
    go_wp2
    go_ret
    exact ⟨rfl, rfl⟩
  · rw [ides_no (by omega)]
    rw [inB_false (by omega)] at KI
    clear KN
    go_enter Tryz.func145, Tryz.ntmps145
    go_wp2_with fail
    refine (KI _).mono ?_
    rintro e w1 ⟨rfl, rfl⟩
    go_wp2
    go_ret
    exact ⟨rfl, rfl⟩
set_option maxHeartbeats 1000000 in
theorem implNones (m : Int) (w : World) : Calls Tryz.prog 242 #[.int .i64 m] w fun e w' => e = .returned (.int .i64 (nones m)) ∧ w' = w := by
  by_cases h : 1 ≤ m ∧ m ≤ 12
  · obtain ⟨h1, h2⟩ := h
    rcases month_cases h1 h2 with rfl | rfl | rfl | rfl | rfl | rfl | rfl | rfl | rfl | rfl | rfl | rfl
    all_goals
      go_enter Tryz.func242, Tryz.ntmps242
      go_wp2
      go_ret
      exact ⟨rfl, rfl⟩
  · rw [nones_no (by omega)]
    have e1 : (m == 1) = false := by simp; omega
    have e2 : (m == 2) = false := by simp; omega
    have e3 : (m == 3) = false := by simp; omega
    have e4 : (m == 4) = false := by simp; omega
    have e5 : (m == 5) = false := by simp; omega
    have e6 : (m == 6) = false := by simp; omega
    have e7 : (m == 7) = false := by simp; omega
    have e8 : (m == 8) = false := by simp; omega
    have e9 : (m == 9) = false := by simp; omega
    have e10 : (m == 10) = false := by simp; omega
    have e11 : (m == 11) = false := by simp; omega
    have e12 : (m == 12) = false := by simp; omega
    go_enter Tryz.func242, Tryz.ntmps242
    go_wp2
    go_ret
    exact ⟨rfl, rfl⟩
set_option maxHeartbeats 1000000 in
theorem implIdes (m : Int) (w : World) : Calls Tryz.prog 243 #[.int .i64 m] w fun e w' => e = .returned (.int .i64 (ides m)) ∧ w' = w := by
  have KN : ∀ W, Calls Tryz.prog 242 #[.int .i64 m] W fun e w' => e = .returned (.int .i64 (nones m)) ∧ w' = W := implNones m
  have hb := nones_b m
  by_cases h : 1 ≤ m ∧ m ≤ 12
  · rw [ides_in h.1 h.2]
    have h5 := nones_in h.1 h.2
    generalize nones m = n at *
    have hn : (n == 0) = false := by simp; omega
    go_enter Tryz.func243, Tryz.ntmps243
    go_wp2_with fail
    refine (KN _).mono ?_
    rintro e w1 ⟨rfl, rfl⟩
    go_wp2
    go_ret
    exact ⟨rfl, rfl⟩
  · rw [ides_no (by omega)]
    rw [nones_no (by omega)] at KN
    go_enter Tryz.func243, Tryz.ntmps243
    go_wp2_with fail
    refine (KN _).mono ?_
    rintro e w1 ⟨rfl, rfl⟩
    go_wp2
    go_ret
    exact ⟨rfl, rfl⟩
def markN (m k : Int) : Int := if k = 0 then 1 else if k = 1 then nones m else if k = 2 then ides m else 0
theorem markN_b (m k : Int) : 0 ≤ markN m k ∧ markN m k ≤ 15 := by
  have := nones_b m
  have := ides_b m
  unfold markN
  repeat' split
  all_goals omega
set_option maxHeartbeats 1000000 in
theorem implMarkDay (m k : Int) (w : World) : Calls Tryz.prog 237 #[.int .i64 m, .int .i64 k] w fun e w' => e = .returned (.int .i64 (markN m k)) ∧ w' = w := by
  by_cases h0 : k = 0
  · subst h0
    rw [show markN m 0 = 1 from rfl]
    go_enter Tryz.func237, Tryz.ntmps237
    go_wp2
    go_ret
    exact ⟨rfl, rfl⟩
  have e0 : (k == 0) = false := by simp [h0]
  by_cases h1 : k = 1
  · subst h1
    rw [show markN m 1 = nones m from rfl]
    have KN := implNones m
    generalize nones m = n at *
    go_enter Tryz.func237, Tryz.ntmps237
    go_wp2_with fail
    refine (KN _).mono ?_
    rintro e w1 ⟨rfl, rfl⟩
    go_wp2
    go_ret
    exact ⟨rfl, rfl⟩
  have e1 : (k == 1) = false := by simp [h1]
  by_cases h2 : k = 2
  · subst h2
    rw [show markN m 2 = ides m from rfl]
    have KN := implIdes m
    generalize ides m = n at *
    go_enter Tryz.func237, Tryz.ntmps237
    go_wp2_with fail
    refine (KN _).mono ?_
    rintro e w1 ⟨rfl, rfl⟩
    go_wp2
    go_ret
    exact ⟨rfl, rfl⟩
  have e2 : (k == 2) = false := by simp [h2]
  rw [show markN m k = 0 from by unfold markN; rw [if_neg h0, if_neg h1, if_neg h2]]
  go_enter Tryz.func237, Tryz.ntmps237
  go_wp2
  go_ret
  exact ⟨rfl, rfl⟩
theorem implMonthBehind (m : Int) (w : World) (h1 : 1 ≤ m) (h2 : m ≤ 12) : Calls Tryz.prog 238 #[.int .i64 m] w fun e w' => e = .returned (.int .i64 (m % 12 + 1)) ∧ w' = w := by
  go_enter Tryz.func238, Tryz.ntmps238
  go_wp2
  go_ret
  exact ⟨rfl, rfl⟩
def monAheadW (m : Int) : Int := if m = 1 then 12 else wrap64 (m - 1)
theorem implMonthAhead (m : Int) (w : World) : Calls Tryz.prog 244 #[.int .i64 m] w fun e w' => e = .returned (.int .i64 (monAheadW m)) ∧ w' = w := by
  by_cases h : m = 1
  · subst h
    go_enter Tryz.func244, Tryz.ntmps244
    go_wp2
    go_ret
    exact ⟨rfl, rfl⟩
  · have e0 : (m == 1) = false := by simp [h]
    have HR : Hid (monAheadW m = wrap64 (m - 1)) := by unfold Hid monAheadW; rw [if_neg h]
    go_enter Tryz.func244, Tryz.ntmps244
    go_wp2
    go_ret
    exact ⟨ret_int HR.out.symm, rfl⟩
end Go.Proofs.YtdgolaaheakfoaaGreatDoor.ctr
namespace Go.Proofs.YtdgolaaheakfoaaGreatDoor.ctr
open Go.RowKit
theorem wp_scope_fwd {P : Program} {Q : Exit → Act → World → Prop} {a : Act} {w : World} {c rest : Code} (l : Nat) (hf : findLabel c l = some rest) (first : c.wp P (Exit.jump l (fun a w => rest.wp P (Exit.noGoto Q) a w) Q) a w) : (Code.scope c).wp P Q a w :=
  wp_scope_jumps l (fun a w => rest.wp P (Exit.noGoto Q) a w) (fun _ _ => 0) hf first fun a w h => wp_mono h fun e a w hq => by
    cases e with
    | goto l' => exact hq.elim
    | normal => exact hq
    | exit id => exact hq
    | ret => exact hq
    | panic ch => exact hq
    | outgrown => exact hq
theorem jump_ret {l : Nat} {J : Act → World → Prop} {Q : Exit → Act → World → Prop} {a : Act} {w : World} (h : Q .ret a w) : Exit.jump l J Q .ret a w := h
abbrev romV (r : Rom) : Value := .agg #[.int .i64 r.count, .int .i64 r.mark, .int .i64 r.month, .bool r.twice]
abbrev romZ : Array Value := #[.int .i64 0, .int .i64 0, .int .i64 0, .bool false]
abbrev romO (a b c : Int) (t : Bool) : Obj := .cells #[.int .i64 a, .int .i64 b, .int .i64 c, .bool t] 42
theorem date_box (w : World) (c y m d : Int) : ∃ W0, W0 = w.alloc (dateO c y m d) ∧ (∀ x : Later W0, x.w.cell? ⟨w.heap.size, 0, none⟩ = some (.int .i64 c)) ∧ (∀ x : Later W0, x.w.cell? ⟨w.heap.size, 1, none⟩ = some (.int .i64 y)) ∧ (∀ x : Later W0, x.w.cell? ⟨w.heap.size, 2, none⟩ = some (.int .i64 m)) ∧ (∀ x : Later W0, x.w.cell? ⟨w.heap.size, 3, none⟩ = some (.int .i64 d)) ∧ (∀ x : Later W0, Below w.heap.size w x.w) :=
  ⟨_, rfl, Later.new rfl 0 rfl, Later.new rfl 1 rfl, Later.new rfl 2 rfl, Later.new rfl 3 rfl, fun x => below_of_alloc rfl x.below⟩
theorem rom_box (w : World) (a b c : Int) (t : Bool) : ∃ W0, W0 = w.alloc (romO a b c t) ∧ (∀ x : Later W0, x.w.cell? ⟨w.heap.size, 0, none⟩ = some (.int .i64 a)) ∧ (∀ x : Later W0, x.w.cell? ⟨w.heap.size, 1, none⟩ = some (.int .i64 b)) ∧ (∀ x : Later W0, x.w.cell? ⟨w.heap.size, 2, none⟩ = some (.int .i64 c)) ∧ (∀ x : Later W0, x.w.cell? ⟨w.heap.size, 3, none⟩ = some (.bool t)) ∧ (∀ x : Later W0, Below w.heap.size w x.w) :=
  ⟨_, rfl, Later.new rfl 0 rfl, Later.new rfl 1 rfl, Later.new rfl 2 rfl, Later.new rfl 3 rfl, fun x => below_of_alloc rfl x.below⟩
theorem box_size (W : World) (o : Obj) : (W.alloc o).heap.size = W.heap.size + 1 := by simp [World.alloc, -World.alloc_eq]
theorem two_box (w : World) (us vs : Array Value) (s t : TypeId) : ∃ W0, W0 = (w.alloc (.cells us s)).alloc (.cells vs t) ∧ (∀ x : Later W0, Blk x.w w.heap.size us s) ∧ (∀ x : Later W0, Blk x.w (w.heap.size + 1) vs t) ∧ (∀ x : Later W0, Below w.heap.size w x.w) := by
  refine ⟨_, rfl, fun x => ((Blk.new w us s).alloc _).later x, fun x => ?_, fun x => ?_⟩
  · have h := Blk.new (w.alloc (.cells us s)) vs t
    rw [box_size] at h
    exact h.later x
  · exact below_alloc (below_alloc x.below)
def put4 (W : World) (b : Nat) (v0 v1 v2 v3 : Value) : World := (((W.setCell ⟨b, 0, none⟩ v0).setCell ⟨b, 1, none⟩ v1).setCell ⟨b, 2, none⟩ v2).setCell ⟨b, 3, none⟩ v3
theorem put4_blk {W : World} {b : Nat} {u0 u1 u2 u3 v0 v1 v2 v3 : Value} {t : TypeId} (h : Blk W b #[u0, u1, u2, u3] t) : Blk (put4 W b v0 v1 v2 v3) b #[v0, v1, v2, v3] t := (((h.set 0 v0).set 1 v1).set 2 v2).set 3 v3
theorem put4_below {w W : World} {n b : Nat} {v0 v1 v2 v3 : Value} (h : Below n w W) (hb : n ≤ b) : Below n w (put4 W b v0 v1 v2 v3) := (((h.setCell (p := ⟨b, 0, none⟩) hb v0).setCell (p := ⟨b, 1, none⟩) hb v1).setCell (p := ⟨b, 2, none⟩) hb v2).setCell (p := ⟨b, 3, none⟩) hb v3
theorem put4_eq (W : World) (b : Nat) (v0 v1 v2 v3 : Value) : (((W.setCell ⟨b, 0, none⟩ v0).setCell ⟨b, 1, none⟩ v1).setCell ⟨b, 2, none⟩ v2).setCell ⟨b, 3, none⟩ v3 = put4 W b v0 v1 v2 v3 := rfl
set_option maxHeartbeats 1000000 in
theorem implIsTwice (c y m d : Int) (w : World) : Calls Tryz.prog 240 #[.agg #[.int .i64 c, .int .i64 y, .int .i64 m, .int .i64 d]] w fun e w' => e = .returned (.bool (decide (m = 2 ∧ d = 24 ∧ leapP c y))) ∧ Below w.heap.size w w' := by
  obtain ⟨W0, hW0, c0, c1, c2, c3, hBl⟩ := date_box w c y m d
  have HW0 := hideP hW0
  have HBl := hideP hBl
  obtain ⟨x0, hx0⟩ := Later.of (Below.refl W0.heap.size W0)
  have KL : ∀ W, Calls Tryz.prog 156 #[.int .i64 c, .int .i64 y] W fun e w' => e = .returned (.bool (leapB c y)) ∧ Below W.heap.size W w' := implLeap c y
  have k0 := c0 x0
  have k1 := c1 x0
  have k2 := c2 x0
  have k3 := c3 x0
  have HX0 := hideP hx0
  rw [← hx0] at k0 k1 k2 k3
  clear hW0 hBl hx0 c0 c1 c2 c3
  by_cases h1 : m = 2
  case neg =>
    have hm : (m == 2) = false := by simp [h1]
    rw [show decide (m = 2 ∧ d = 24 ∧ leapP c y) = false from by simp [h1]]
    clear KL
    go_enter Tryz.func240, Tryz.ntmps240
    go_wp2_with fail
    rw [← HW0.out]
    go_wp2
    go_ret
    rw [HX0.out]
    exact ⟨rfl, HBl.out x0⟩
  have hm : (m == 2) = true := by simp [h1]
  by_cases h2 : d = 24
  case neg =>
    have hd : (d == 24) = false := by simp [h2]
    rw [show decide (m = 2 ∧ d = 24 ∧ leapP c y) = false from by simp [h2]]
    clear KL h1
    go_enter Tryz.func240, Tryz.ntmps240
    go_wp2_with fail
    rw [← HW0.out]
    go_wp2
    go_ret
    rw [HX0.out]
    exact ⟨rfl, HBl.out x0⟩
  have hd : (d == 24) = true := by simp [h2]
  rw [show decide (m = 2 ∧ d = 24 ∧ leapP c y) = leapB c y from by simp [h1, h2, leapB]]
  clear h1 h2
  generalize leapB c y = lb at *
  go_enter Tryz.func240, Tryz.ntmps240
  go_wp2_with fail
  rw [← HW0.out]
  go_wp2_with fail
  refine (KL _).mono ?_
  rintro e w1 ⟨rfl, hb⟩
  obtain ⟨x1, rfl⟩ := Later.of hb
  clear hb
  go_wp2
  go_ret
  exact ⟨rfl, HBl.out x1⟩
end Go.Proofs.YtdgolaaheakfoaaGreatDoor.ctr
namespace Go.Proofs.YtdgolaaheakfoaaGreatDoor.ctr
open Go.RowKit
theorem days_count {c y m d : Int} (h : dateP c y m d) : (if monthDays c y m = 29 ∧ d ≤ 24 then 28 else monthDays c y m) = countDays c y m d := by
  have hm := dateP_month h
  have hc := h.1
  unfold countDays
  by_cases e2 : m = 2
  · subst e2
    by_cases hl : leapP c y
    · rw [monthDays_leap hc hl]
      by_cases h24 : d ≤ 24
      · rw [if_pos ⟨rfl, h24⟩, if_pos ⟨rfl, h24⟩]
      · rw [if_neg (fun h => h24 h.2), if_neg (fun h => h24 h.2)]
    · have h28 : monthDays c y 2 = 28 := monthDays_plain hc (by omega) (by omega) (fun h => hl h.2)
      rw [h28]
      split <;> split <;> omega
  · have h29 : monthDays c y m ≠ 29 := by
      rw [monthDays_plain hc hm.1 hm.2 (fun h => e2 h.1)]
      rcases month_cases hm.1 hm.2 with rfl | rfl | rfl | rfl | rfl | rfl | rfl | rfl | rfl | rfl | rfl | rfl <;> decide
    rw [if_neg (fun h => h29 h.1), if_neg (fun h => e2 h.1)]
set_option maxRecDepth 100000 in
set_option maxHeartbeats 8000000 in
theorem specRomanOf (c y m d : Int) (w : World) : Calls Tryz.prog 118 #[.agg #[.int .i64 c, .int .i64 y, .int .i64 m, .int .i64 d]] w fun e w' => e = .returned (romV (romanOf c y m d)) ∧ Below w.heap.size w w' := by
  obtain ⟨W0, hW0, hD, hR, hBl⟩ := two_box w #[.int .i64 c, .int .i64 y, .int .i64 m, .int .i64 d] romZ 92 42
  have c0 : ∀ x : Later W0, x.w.cell? ⟨w.heap.size, 0, none⟩ = some (.int .i64 c) := fun x => (hD x).cell 0 rfl
  have c1 : ∀ x : Later W0, x.w.cell? ⟨w.heap.size, 1, none⟩ = some (.int .i64 y) := fun x => (hD x).cell 1 rfl
  have c2 : ∀ x : Later W0, x.w.cell? ⟨w.heap.size, 2, none⟩ = some (.int .i64 m) := fun x => (hD x).cell 2 rfl
  have c3 : ∀ x : Later W0, x.w.cell? ⟨w.heap.size, 3, none⟩ = some (.int .i64 d) := fun x => (hD x).cell 3 rfl
  have r0 : ∀ x : Later W0, x.w.cell? ⟨w.heap.size + 1, 0, none⟩ = some (.int .i64 0) := fun x => (hR x).cell 0 rfl
  have r1 : ∀ x : Later W0, x.w.cell? ⟨w.heap.size + 1, 1, none⟩ = some (.int .i64 0) := fun x => (hR x).cell 1 rfl
  have r2 : ∀ x : Later W0, x.w.cell? ⟨w.heap.size + 1, 2, none⟩ = some (.int .i64 0) := fun x => (hR x).cell 2 rfl
  have r3 : ∀ x : Later W0, x.w.cell? ⟨w.heap.size + 1, 3, none⟩ = some (.bool false) := fun x => (hR x).cell 3 rfl
  have f0 : ∀ x : Later W0, x.w.frozen? ⟨w.heap.size + 1, 0, none⟩ = false := fun x => (hR x).thaw 0
  have f1 : ∀ x : Later W0, x.w.frozen? ⟨w.heap.size + 1, 1, none⟩ = false := fun x => (hR x).thaw 1
  have f2 : ∀ x : Later W0, x.w.frozen? ⟨w.heap.size + 1, 2, none⟩ = false := fun x => (hR x).thaw 2
  have f3 : ∀ x : Later W0, x.w.frozen? ⟨w.heap.size + 1, 3, none⟩ = false := fun x => (hR x).thaw 3
  have KO : ∀ W, Calls Tryz.prog 99 #[.agg #[.int .i64 c, .int .i64 y, .int .i64 m, .int .i64 d]] W fun e w' => e = .returned (.bool (dateOk c y m d)) ∧ Below W.heap.size W w' := specDateOk c y m d
  have KM : ∀ W, Calls Tryz.prog 103 #[.int .i64 c, .int .i64 y, .int .i64 m] W fun e w' => e = .returned (.int .i64 (monthDays c y m)) ∧ Below W.heap.size W w' := specMonthDays c y m
  have KN : ∀ W, Calls Tryz.prog 144 #[.int .i64 m] W fun e w' => e = .returned (.int .i64 (nones m)) ∧ w' = W := specNones m
  have KI : ∀ W, Calls Tryz.prog 145 #[.int .i64 m] W fun e w' => e = .returned (.int .i64 (ides m)) ∧ w' = W := specIdes m
  have KL : ∀ W, Calls Tryz.prog 135 #[.int .i64 c, .int .i64 y] W fun e w' => e = .returned (.bool (leapB c y)) ∧ w' = W := specLeap c y
  have HW0 := hideP hW0
  have HBl := hideP hBl
  have HR := hideP hR
  obtain ⟨x0, hx0⟩ := Later.of (Below.refl W0.heap.size W0)
  have HX0 := hideP hx0
  clear hW0 hBl hD hR hx0
  by_cases hok : dateP c y m d
  case neg =>
    rw [dateOk_false hok] at KO
    have HV : Hid (romanOf c y m d = ⟨0, 0, 0, false⟩) := by unfold Hid romanOf; rw [if_neg hok]
    rw [HV.out]
    clear HV KM KN KI KL hok
    go_enter Tryz.func118, Tryz.ntmps118
    go_wp2_with fail
    rw [← HW0.out, HX0.out]
    refine (KO _).mono ?_
    rintro e w1 ⟨rfl, hb⟩
    obtain ⟨x1, rfl⟩ := x0.next hb
    clear hb
    go_wp2_with fail
    rw [put4_eq]
    have Z := put4_blk (v0 := .int .i64 0) (v1 := .int .i64 0) (v2 := .int .i64 0) (v3 := .bool false) (HR.out x1)
    have z0 := Z.cell 0 rfl
    have z1 := Z.cell 1 rfl
    have z2 := Z.cell 2 rfl
    have z3 := Z.cell 3 rfl
    exact bodyPost_ret (by simp [results, Tryz.results118, go_sem, z0, z1, z2, z3]; try rfl) rfl ⟨rfl, put4_below (HBl.out x1) (by omega)⟩
  rw [dateOk_true hok] at KO
  have hm := dateP_month hok
  have hd := dateP_day hok
  have hm1 := hm.1
  have hm2 := hm.2
  have hd1 := hd.1
  have hd2 := hd.2
  have hmd := monthDays_le c y m
  have hcd := days_count hok
  have hnb := nones_b m
  have hib := ides_b m
  have hmr : m.tmod 12 = m % 12 := by rw [Int.tmod_eq_emod_of_nonneg (by omega)]
  have HV : Hid (romanOf c y m d = romanIn c y m d) := by unfold Hid romanOf; rw [if_pos hok]
  rw [HV.out]
  have HA : Hid (d = 1 → romanIn c y m d = ⟨1, 0, m, false⟩) := fun h => by unfold romanIn; rw [if_pos h]
  have HN : Hid (¬ d = 1 → d ≤ nones m → romanIn c y m d = ⟨nones m - d + 1, 1, m, false⟩) := fun h h' => by unfold romanIn; rw [if_neg h, if_pos h']
  have HI : Hid (¬ d = 1 → ¬ d ≤ nones m → d ≤ ides m → romanIn c y m d = ⟨ides m - d + 1, 2, m, false⟩) := fun h h' h'' => by unfold romanIn; rw [if_neg h, if_neg h', if_pos h'']
  have HE : Hid (¬ d = 1 → ¬ d ≤ nones m → ¬ d ≤ ides m → romanIn c y m d = ⟨countDays c y m d - d + 2, 0, m % 12 + 1, decide (m = 2) && (decide (d = 24) && leapB c y)⟩) := fun h h' h'' => by
    unfold romanIn
    rw [if_neg h, if_neg h', if_neg h'']
    congr 1
    unfold leapB
    by_cases e1 : m = 2 <;> by_cases e2 : d = 24 <;> by_cases e3 : leapP c y <;> simp [e1, e2, e3]
  rw [← hcd] at HE
  clear HV hok hm hd hcd
  generalize leapB c y = lb at *
  generalize romanIn c y m d = R at *
  generalize nones m = nn at *
  generalize ides m = ii at *
  generalize monthDays c y m = md at *
  obtain ⟨dd, hdd⟩ : ∃ dd, dd = (if md = 29 ∧ d ≤ 24 then 28 else md) := ⟨_, rfl⟩
  have hdb : 0 ≤ dd ∧ dd ≤ 31 := by rw [hdd]; split <;> omega
  rw [← hdd] at HE
  have HDD := hideP hdd
  clear hdd
  go_enter Tryz.func118, Tryz.ntmps118
  go_wp2_with fail
  rw [← HW0.out, HX0.out]
  refine (KO _).mono ?_
  rintro e w1 ⟨rfl, hb⟩
  obtain ⟨x1, rfl⟩ := x0.next hb
  clear hb
  go_wp2_with fail
  refine (KM _).mono ?_
  rintro e w1 ⟨rfl, hb⟩
  obtain ⟨x2, rfl⟩ := x1.next hb
  clear hb
  go_upto_region 4 with fail
  obtain ⟨bb, hbb⟩ : ∃ bb, bb = decide (md = 29 ∧ d ≤ 24) := ⟨_, rfl⟩
  go_cut [21] (fun s wx => s = .bool bb ∧ wx = x2.w)
  case first =>
    by_cases h29 : md = 29
    · have g1 : (md == 29) = true := by simp [h29]
      by_cases h24 : d ≤ 24
      · have g2 : decide (d ≤ 24) = true := decide_eq_true h24
        have HB : Hid (bb = true) := hbb.trans (decide_eq_true ⟨h29, h24⟩)
        clear h29 hbb
        go_wp2_with fail
        go_meet
        exact ⟨by rw [HB.out], rfl⟩
      · have g2 : decide (d ≤ 24) = false := decide_eq_false h24
        have HB : Hid (bb = false) := hbb.trans (decide_eq_false (fun h => h24 h.2))
        clear h29 hbb
        go_wp2_with fail
        go_meet
        exact ⟨by rw [HB.out], rfl⟩
    · have g1 : (md == 29) = false := by simp [h29]
      have HB : Hid (bb = false) := hbb.trans (decide_eq_false (fun h => h29 h.1))
      clear h29 hbb
      go_wp2_with fail
      go_meet
      exact ⟨by rw [HB.out], rfl⟩
  case rest =>
  obtain ⟨rfl, rfl⟩ := hcut
  have HBB := hideP hbb
  clear hbb
  go_upto_if 21 with fail
  go_cut [3] (fun s wx => s = .int .i64 dd ∧ wx = x2.w)
  case first =>
    cases bb
    · have HQ : Hid (dd = md) := HDD.out.trans (if_neg (of_decide_eq_false HBB.out.symm))
      go_wp2_with fail
      go_meet
      exact ⟨by rw [HQ.out], rfl⟩
    · have HQ : Hid (dd = 28) := HDD.out.trans (if_pos (of_decide_eq_true HBB.out.symm))
      go_wp2_with fail
      go_meet
      exact ⟨by rw [HQ.out], rfl⟩
  case rest =>
  obtain ⟨rfl, rfl⟩ := hcut
  clear HBB HDD
  by_cases e1 : d = 1
  · have HF := hideP (HA.out e1)
    have d1 : (d == 1) = true := by simp [e1]
    clear HA HN HI HE e1
    go_wp2_with fail
    rw [put4_eq]
    have Z := put4_blk (v0 := .int .i64 (1)) (v1 := .int .i64 0) (v2 := .int .i64 (m)) (v3 := .bool false) (HR.out x2)
    have z0 := Z.cell 0 rfl
    have z1 := Z.cell 1 rfl
    have z2 := Z.cell 2 rfl
    have z3 := Z.cell 3 rfl
    exact bodyPost_ret (by simp [results, Tryz.results118, go_sem, z0, z1, z2, z3]; try rfl) rfl ⟨by rw [HF.out], put4_below (HBl.out x2) (by omega)⟩
  have d1 : (d == 1) = false := by simp [e1]
  by_cases e2 : d ≤ nn
  · have HF := hideP (HN.out e1 e2)
    have d2 : decide (d ≤ nn) = true := decide_eq_true e2
    clear HA HN HI HE
    go_wp2_with fail
    refine wp_region_later (W := W0) x2.below (by kernel_rfl) (by kernel_rfl) ?_
    repeat (go_big_quiet_step (first | (go_at_call 144; exact calls_same (KN _))))
    refine wpQuiet_nil ?_
    intro _ hw'
    obtain ⟨x3, rfl⟩ := hw'
    go_wp2_with fail
    obtain ⟨xd, hxd⟩ : ∃ xd : Later W0, x3.w.drew = xd.w := ⟨⟨x3.w.drew, x3.below.drew⟩, rfl⟩
    refine wp_region_any (by kernel_rfl) ?_
    change wpAny _ _ _ _ (1 + 10) _ _ _
    refine any_prefix (C := fun w' => ∃ x : Later W0, w' = x.w) 10 1 (by decide) (by kernel_rfl) (by kernel_rfl) (by kernel_rfl) (by kernel_rfl) (by kernel_rfl) ⟨xd, hxd⟩ ?_
    simp only [List.take_succ_cons, List.take_zero]
    clear hxd xd
    repeat (go_big_quiet_step (first | (go_at_call 144; exact calls_same (KN _))))
    refine wpQuiet_nil ?_
    intro _ hw'
    obtain ⟨x9, rfl⟩ := hw'
    refine wpAny_ready (rs := [10]) (by kernel_rfl) (by simp) ?_
    refine AllReady.cons rfl (fun K hK => ?_) AllReady.nil
    go_simp
    refine hK _ _ ?_
    clear hK K
    refine wpAny_done (by kernel_rfl) ?_ _
    rw [put4_eq]
    go_wp2_with fail
    have Z := put4_blk (v0 := .int .i64 (nn - d + 1)) (v1 := .int .i64 1) (v2 := .int .i64 (m)) (v3 := .bool false) (HR.out x9)
    have z0 := Z.cell 0 rfl
    have z1 := Z.cell 1 rfl
    have z2 := Z.cell 2 rfl
    have z3 := Z.cell 3 rfl
    exact bodyPost_ret (by simp [results, Tryz.results118, go_sem, z0, z1, z2, z3]; try rfl) rfl ⟨by rw [HF.out], put4_below (HBl.out x9) (by omega)⟩
  have d2 : decide (d ≤ nn) = false := decide_eq_false e2
  go_wp2_with fail
  refine wp_region_later (W := W0) x2.below (by kernel_rfl) (by kernel_rfl) ?_
  repeat (go_big_quiet_step (first | (go_at_call 144; exact calls_same (KN _))))
  refine wpQuiet_nil ?_
  intro _ hw'
  obtain ⟨x3, rfl⟩ := hw'
  by_cases e3 : d ≤ ii
  · have HF := hideP (HI.out e1 e2 e3)
    have d3 : decide (d ≤ ii) = true := decide_eq_true e3
    clear HA HN HI HE
    go_wp2_with fail
    refine wp_region_later (W := W0) x3.below (by kernel_rfl) (by kernel_rfl) ?_
    repeat (go_big_quiet_step (first | (go_at_call 145; exact calls_same (KI _))))
    refine wpQuiet_nil ?_
    intro _ hw'
    obtain ⟨x4, rfl⟩ := hw'
    go_wp2_with fail
    obtain ⟨xd, hxd⟩ : ∃ xd : Later W0, x4.w.drew = xd.w := ⟨⟨x4.w.drew, x4.below.drew⟩, rfl⟩
    refine wp_region_any (by kernel_rfl) ?_
    change wpAny _ _ _ _ (1 + 10) _ _ _
    refine any_prefix (C := fun w' => ∃ x : Later W0, w' = x.w) 10 1 (by decide) (by kernel_rfl) (by kernel_rfl) (by kernel_rfl) (by kernel_rfl) (by kernel_rfl) ⟨xd, hxd⟩ ?_
    simp only [List.take_succ_cons, List.take_zero]
    clear hxd xd
    repeat (go_big_quiet_step (first | (go_at_call 145; exact calls_same (KI _))))
    refine wpQuiet_nil ?_
    intro _ hw'
    obtain ⟨x9, rfl⟩ := hw'
    refine wpAny_ready (rs := [10]) (by kernel_rfl) (by simp) ?_
    refine AllReady.cons rfl (fun K hK => ?_) AllReady.nil
    go_simp
    refine hK _ _ ?_
    clear hK K
    refine wpAny_done (by kernel_rfl) ?_ _
    rw [put4_eq]
    go_wp2_with fail
    have Z := put4_blk (v0 := .int .i64 (ii - d + 1)) (v1 := .int .i64 2) (v2 := .int .i64 (m)) (v3 := .bool false) (HR.out x9)
    have z0 := Z.cell 0 rfl
    have z1 := Z.cell 1 rfl
    have z2 := Z.cell 2 rfl
    have z3 := Z.cell 3 rfl
    exact bodyPost_ret (by simp [results, Tryz.results118, go_sem, z0, z1, z2, z3]; try rfl) rfl ⟨by rw [HF.out], put4_below (HBl.out x9) (by omega)⟩
  have d3 : decide (d ≤ ii) = false := decide_eq_false e3
  have HF0 := hideP (HE.out (by omega) (by omega) (by omega))
  clear HA HN HI HE
  go_wp2_with fail
  refine wp_region_later (W := W0) x3.below (by kernel_rfl) (by kernel_rfl) ?_
  repeat (go_big_quiet_step (first | (go_at_call 145; exact calls_same (KI _))))
  refine wpQuiet_nil ?_
  intro _ hw'
  obtain ⟨x4, rfl⟩ := hw'
  cases hm22 : decide (m = 2)
  · have m22 : (m == 2) = false := by simpa using hm22
    have HF : Hid (R = ⟨dd - d + 2, 0, m % 12 + 1, false⟩) := by rw [hm22] at HF0; exact HF0.out
    clear HF0 hm22
    go_wp2_with fail
    obtain ⟨xd, hxd⟩ : ∃ xd : Later W0, x4.w.drew = xd.w := ⟨⟨x4.w.drew, x4.below.drew⟩, rfl⟩
    refine wp_region_any (by kernel_rfl) ?_
    change wpAny _ _ _ _ (1 + 25) _ _ _
    refine any_prefix (C := fun w' => ∃ x : Later W0, w' = x.w) 25 1 (by decide) (by kernel_rfl) (by kernel_rfl) (by kernel_rfl) (by kernel_rfl) (by kernel_rfl) ⟨xd, hxd⟩ ?_
    simp only [List.take_succ_cons, List.take_zero]
    clear hxd xd
    repeat (go_big_quiet_step (first | (go_at_call 135; exact calls_same (KL _))))
    refine wpQuiet_nil ?_
    intro _ hw'
    obtain ⟨x9, rfl⟩ := hw'
    refine wpAny_ready (rs := [25]) (by kernel_rfl) (by simp) ?_
    refine AllReady.cons rfl (fun K hK => ?_) AllReady.nil
    go_simp
    refine hK _ _ ?_
    clear hK K
    refine wpAny_done (by kernel_rfl) ?_ _
    rw [put4_eq]
    go_wp2_with fail
    have Z := put4_blk (v0 := .int .i64 (dd - d + 2)) (v1 := .int .i64 0) (v2 := .int .i64 (m % 12 + 1)) (v3 := .bool false) (HR.out x9)
    have z0 := Z.cell 0 rfl
    have z1 := Z.cell 1 rfl
    have z2 := Z.cell 2 rfl
    have z3 := Z.cell 3 rfl
    exact bodyPost_ret (by simp [results, Tryz.results118, go_sem, z0, z1, z2, z3]; try rfl) rfl ⟨by rw [HF.out], put4_below (HBl.out x9) (by omega)⟩
  have m22 : (m == 2) = true := by simpa using hm22
  cases hm24 : decide (d = 24)
  · have m24 : (d == 24) = false := by simpa using hm24
    have HF : Hid (R = ⟨dd - d + 2, 0, m % 12 + 1, false⟩) := by rw [hm22, hm24] at HF0; exact HF0.out
    clear HF0 hm22 hm24
    go_wp2_with fail
    obtain ⟨xd, hxd⟩ : ∃ xd : Later W0, x4.w.drew = xd.w := ⟨⟨x4.w.drew, x4.below.drew⟩, rfl⟩
    refine wp_region_any (by kernel_rfl) ?_
    change wpAny _ _ _ _ (1 + 25) _ _ _
    refine any_prefix (C := fun w' => ∃ x : Later W0, w' = x.w) 25 1 (by decide) (by kernel_rfl) (by kernel_rfl) (by kernel_rfl) (by kernel_rfl) (by kernel_rfl) ⟨xd, hxd⟩ ?_
    simp only [List.take_succ_cons, List.take_zero]
    clear hxd xd
    repeat (go_big_quiet_step (first | (go_at_call 135; exact calls_same (KL _))))
    refine wpQuiet_nil ?_
    intro _ hw'
    obtain ⟨x9, rfl⟩ := hw'
    refine wpAny_ready (rs := [25]) (by kernel_rfl) (by simp) ?_
    refine AllReady.cons rfl (fun K hK => ?_) AllReady.nil
    go_simp
    refine hK _ _ ?_
    clear hK K
    refine wpAny_done (by kernel_rfl) ?_ _
    rw [put4_eq]
    go_wp2_with fail
    have Z := put4_blk (v0 := .int .i64 (dd - d + 2)) (v1 := .int .i64 0) (v2 := .int .i64 (m % 12 + 1)) (v3 := .bool false) (HR.out x9)
    have z0 := Z.cell 0 rfl
    have z1 := Z.cell 1 rfl
    have z2 := Z.cell 2 rfl
    have z3 := Z.cell 3 rfl
    exact bodyPost_ret (by simp [results, Tryz.results118, go_sem, z0, z1, z2, z3]; try rfl) rfl ⟨by rw [HF.out], put4_below (HBl.out x9) (by omega)⟩
  have m24 : (d == 24) = true := by simpa using hm24
  have HF : Hid (R = ⟨dd - d + 2, 0, m % 12 + 1, lb⟩) := by rw [hm22, hm24] at HF0; exact HF0.out
  clear HF0 hm22 hm24
  go_wp2_with fail
  obtain ⟨xd, hxd⟩ : ∃ xd : Later W0, x4.w.drew = xd.w := ⟨⟨x4.w.drew, x4.below.drew⟩, rfl⟩
  refine wp_region_any (by kernel_rfl) ?_
  change wpAny _ _ _ _ (1 + 25) _ _ _
  refine any_prefix (C := fun w' => ∃ x : Later W0, w' = x.w) 25 1 (by decide) (by kernel_rfl) (by kernel_rfl) (by kernel_rfl) (by kernel_rfl) (by kernel_rfl) ⟨xd, hxd⟩ ?_
  simp only [List.take_succ_cons, List.take_zero]
  clear hxd xd
  repeat (go_big_quiet_step (first | (go_at_call 135; exact calls_same (KL _))))
  refine wpQuiet_nil ?_
  intro _ hw'
  obtain ⟨x9, rfl⟩ := hw'
  refine wpAny_ready (rs := [25]) (by kernel_rfl) (by simp) ?_
  refine AllReady.cons rfl (fun K hK => ?_) AllReady.nil
  go_simp
  refine hK _ _ ?_
  clear hK K
  refine wpAny_done (by kernel_rfl) ?_ _
  rw [put4_eq]
  go_wp2_with fail
  have Z := put4_blk (v0 := .int .i64 (dd - d + 2)) (v1 := .int .i64 0) (v2 := .int .i64 (m % 12 + 1)) (v3 := .bool lb) (HR.out x9)
  have z0 := Z.cell 0 rfl
  have z1 := Z.cell 1 rfl
  have z2 := Z.cell 2 rfl
  have z3 := Z.cell 3 rfl
  exact bodyPost_ret (by simp [results, Tryz.results118, go_sem, z0, z1, z2, z3]; try rfl) rfl ⟨by rw [HF.out], put4_below (HBl.out x9) (by omega)⟩
end Go.Proofs.YtdgolaaheakfoaaGreatDoor.ctr
