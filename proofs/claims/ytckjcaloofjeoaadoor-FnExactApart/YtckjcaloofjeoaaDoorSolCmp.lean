/- Contracts of Apart and CompareDates, the model's and the program's. -/
import Derived.Test.YtckjcaloofjeoaaDoorSolDay
namespace Go.Proofs.YtckjcaloofjeoaaDoor.ctr
open Go.RowKit

theorem two_a {w W0 : World} {cs : Array Value} {t : TypeId} {o : Obj} (e : W0 = (w.alloc (.cells cs t)).alloc o) (i : Nat) {v : Value} (h : cs[i]? = some v) (x : Later W0) : x.w.cell? ⟨w.heap.size, i, none⟩ = some v :=
  Later.new rfl i h ⟨x.w, below_of_alloc e x.below⟩
theorem two_b {w W0 : World} {cs : Array Value} {t : TypeId} {o : Obj} (e : W0 = (w.alloc o).alloc (.cells cs t)) (i : Nat) {v : Value} (h : cs[i]? = some v) (x : Later W0) : x.w.cell? ⟨w.heap.size + 1, i, none⟩ = some v := by
  have := Later.new e i h x
  rwa [World.size_alloc] at this
theorem two_below {w w1 W0 : World} {o o' : Obj} (e : W0 = (w.alloc o).alloc o') (h : Below W0.heap.size W0 w1) : Below w.heap.size w w1 := below_alloc (below_of_alloc e h)

def apart (y m d : Int) : Int := if dateP 0 y m d ∧ dateP 1 y m d then dayOf 0 y m d - dayOf 1 y m d else 0
theorem apart_no {y m d : Int} (h : ¬ (dateP 0 y m d ∧ dateP 1 y m d)) : apart y m d = 0 := by unfold apart; rw [if_neg h]
def cmpI (x y : Int) : Int := if x < y then -1 else if x = y then 0 else 1
def compareD (a b c d a' b' c' d' : Int) : Int := if dateP a b c d ∧ dateP a' b' c' d' then cmpI (dayOf a b c d) (dayOf a' b' c' d') else 0
theorem compare_no {a b c d a' b' c' d' : Int} (h : ¬ (dateP a b c d ∧ dateP a' b' c' d')) : compareD a b c d a' b' c' d' = 0 := by unfold compareD; rw [if_neg h]

set_option maxHeartbeats 400000 in
theorem specApart (y m d : Int) (w : World) : Calls Tryd.prog 46 #[.int .i64 y, .int .i64 m, .int .i64 d] w fun e w' => e = .returned (.int .i64 (apart y m d)) ∧ Below w.heap.size w w' := by
  obtain ⟨W0, hW0⟩ : ∃ W0, W0 = (w.alloc (.cells #[.int .i64 0, .int .i64 y, .int .i64 m, .int .i64 d] 25)).alloc (.cells #[.int .i64 1, .int .i64 y, .int .i64 m, .int .i64 d] 25) := ⟨_, rfl⟩
  have c0 : ∀ x : Later W0, x.w.cell? ⟨w.heap.size, 0, none⟩ = some (.int .i64 0) := two_a hW0 0 rfl
  have c1 : ∀ x : Later W0, x.w.cell? ⟨w.heap.size, 1, none⟩ = some (.int .i64 y) := two_a hW0 1 rfl
  have c2 : ∀ x : Later W0, x.w.cell? ⟨w.heap.size, 2, none⟩ = some (.int .i64 m) := two_a hW0 2 rfl
  have c3 : ∀ x : Later W0, x.w.cell? ⟨w.heap.size, 3, none⟩ = some (.int .i64 d) := two_a hW0 3 rfl
  have g0 : ∀ x : Later W0, x.w.cell? ⟨w.heap.size + 1, 0, none⟩ = some (.int .i64 1) := two_b hW0 0 rfl
  have g1 : ∀ x : Later W0, x.w.cell? ⟨w.heap.size + 1, 1, none⟩ = some (.int .i64 y) := two_b hW0 1 rfl
  have g2 : ∀ x : Later W0, x.w.cell? ⟨w.heap.size + 1, 2, none⟩ = some (.int .i64 m) := two_b hW0 2 rfl
  have g3 : ∀ x : Later W0, x.w.cell? ⟨w.heap.size + 1, 3, none⟩ = some (.int .i64 d) := two_b hW0 3 rfl
  have HW0 : Hid (W0 = _) := hW0
  have K1 : ∀ x : Later W0, Calls Tryd.prog 25 #[.agg #[.int .i64 0, .int .i64 y, .int .i64 m, .int .i64 d]] x.w fun e w' => e = .returned (.bool (dateOk 0 y m d)) ∧ Below x.w.heap.size x.w w' := fun x => specDateOk 0 y m d x.w
  have K2 : ∀ x : Later W0, Calls Tryd.prog 25 #[.agg #[.int .i64 1, .int .i64 y, .int .i64 m, .int .i64 d]] x.w fun e w' => e = .returned (.bool (dateOk 1 y m d)) ∧ Below x.w.heap.size x.w w' := fun x => specDateOk 1 y m d x.w
  have K3 : ∀ x : Later W0, Calls Tryd.prog 26 #[.agg #[.int .i64 0, .int .i64 y, .int .i64 m, .int .i64 d]] x.w fun e w' => e = .returned (.int .i64 (dayOf 0 y m d)) ∧ Below x.w.heap.size x.w w' := fun x => specDayOf 0 y m d x.w
  have K4 : ∀ x : Later W0, Calls Tryd.prog 26 #[.agg #[.int .i64 1, .int .i64 y, .int .i64 m, .int .i64 d]] x.w fun e w' => e = .returned (.int .i64 (dayOf 1 y m d)) ∧ Below x.w.heap.size x.w w' := fun x => specDayOf 1 y m d x.w
  clear hW0
  by_cases h1 : dateP 0 y m d
  · simp only [dateOk_true h1] at K1
    by_cases h2 : dateP 1 y m d
    · simp only [dateOk_true h2] at K2
      have b1 := dayOf_bound 0 y m d
      have b2 := dayOf_bound 1 y m d
      have e1 : apart y m d = dayOf 0 y m d - dayOf 1 y m d := by unfold apart; rw [if_pos ⟨h1, h2⟩]
      rw [e1]
      clear h1 h2 e1
      generalize dayOf 0 y m d = X at *
      generalize dayOf 1 y m d = Y at *
      go_enter Tryd.func46, Tryd.ntmps46
      go_wp2_with fail
      rw [← HW0.out]
      refine (K1 ⟨W0, Below.refl _ _⟩).mono ?_
      rintro e w1 ⟨rfl, hb⟩
      obtain ⟨x1, rfl⟩ := Later.of hb
      clear hb
      go_wp2_with fail
      refine (K2 x1).mono ?_
      rintro e w1 ⟨rfl, hb⟩
      obtain ⟨x2, rfl⟩ := x1.next hb
      clear hb
      go_wp2_with fail
      first
        | (refine wp_region_later (W := W0) x2.below (by kernel_rfl) (by kernel_rfl) ?_
           repeat (go_big_quiet_step (first | (go_at_call_of 26 (Value.int IntKind.i64 0); exact calls_later (K3 _)) | (go_at_call_of 26 (Value.int IntKind.i64 1); exact calls_later (K4 _))))
           refine wpQuiet_nil ?_
           intro _ hw'
           obtain ⟨x, rfl⟩ := hw'
           go_wp2
           go_ret
           exact ⟨rfl, two_below HW0.out x.below⟩)
        | (refine (K3 x2).mono ?_
           rintro e w1 ⟨rfl, hb⟩
           obtain ⟨x3, rfl⟩ := x2.next hb
           clear hb
           go_wp2_with fail
           refine (K4 x3).mono ?_
           rintro e w1 ⟨rfl, hb⟩
           go_wp2
           go_ret
           exact ⟨rfl, two_below HW0.out (x3.on hb)⟩)
    · simp only [dateOk_false h2] at K2
      rw [apart_no (fun h => h2 h.2)]
      clear h1 h2 K3 K4
      go_enter Tryd.func46, Tryd.ntmps46
      go_wp2_with fail
      rw [← HW0.out]
      refine (K1 ⟨W0, Below.refl _ _⟩).mono ?_
      rintro e w1 ⟨rfl, hb⟩
      obtain ⟨x1, rfl⟩ := Later.of hb
      clear hb
      go_wp2_with fail
      refine (K2 x1).mono ?_
      rintro e w1 ⟨rfl, hb⟩
      obtain ⟨x2, rfl⟩ := x1.next hb
      clear hb
      go_wp2
      go_ret
      exact ⟨rfl, two_below HW0.out x2.below⟩
  · simp only [dateOk_false h1] at K1
    rw [apart_no (fun h => h1 h.1)]
    clear h1 K2 K3 K4
    go_enter Tryd.func46, Tryd.ntmps46
    go_wp2_with fail
    rw [← HW0.out]
    refine (K1 ⟨W0, Below.refl _ _⟩).mono ?_
    rintro e w1 ⟨rfl, hb⟩
    obtain ⟨x1, rfl⟩ := Later.of hb
    clear hb
    go_wp2
    go_ret
    exact ⟨rfl, two_below HW0.out x1.below⟩

set_option maxHeartbeats 400000 in
theorem implApart (y m d : Int) (w : World) (hT : Tab w) : Calls Tryd.prog 45 #[.int .i64 y, .int .i64 m, .int .i64 d] w fun e w' => e = .returned (.int .i64 (apart y m d)) ∧ Below w.heap.size w w' := by
  obtain ⟨W0, hW0⟩ : ∃ W0, W0 = (w.alloc (.cells #[.int .i64 0, .int .i64 y, .int .i64 m, .int .i64 d] 25)).alloc (.cells #[.int .i64 1, .int .i64 y, .int .i64 m, .int .i64 d] 25) := ⟨_, rfl⟩
  have c0 : ∀ x : Later W0, x.w.cell? ⟨w.heap.size, 0, none⟩ = some (.int .i64 0) := two_a hW0 0 rfl
  have c1 : ∀ x : Later W0, x.w.cell? ⟨w.heap.size, 1, none⟩ = some (.int .i64 y) := two_a hW0 1 rfl
  have c2 : ∀ x : Later W0, x.w.cell? ⟨w.heap.size, 2, none⟩ = some (.int .i64 m) := two_a hW0 2 rfl
  have c3 : ∀ x : Later W0, x.w.cell? ⟨w.heap.size, 3, none⟩ = some (.int .i64 d) := two_a hW0 3 rfl
  have g0 : ∀ x : Later W0, x.w.cell? ⟨w.heap.size + 1, 0, none⟩ = some (.int .i64 1) := two_b hW0 0 rfl
  have g1 : ∀ x : Later W0, x.w.cell? ⟨w.heap.size + 1, 1, none⟩ = some (.int .i64 y) := two_b hW0 1 rfl
  have g2 : ∀ x : Later W0, x.w.cell? ⟨w.heap.size + 1, 2, none⟩ = some (.int .i64 m) := two_b hW0 2 rfl
  have g3 : ∀ x : Later W0, x.w.cell? ⟨w.heap.size + 1, 3, none⟩ = some (.int .i64 d) := two_b hW0 3 rfl
  have HW0 : Hid (W0 = _) := hW0
  have HT : Hid (∀ x : Later W0, Tab x.w) := fun x => hT.later (two_below HW0.out x.below)
  have K1 : ∀ x : Later W0, Calls Tryd.prog 24 #[.agg #[.int .i64 0, .int .i64 y, .int .i64 m, .int .i64 d]] x.w fun e w' => e = .returned (.bool (dateOk 0 y m d)) ∧ Below x.w.heap.size x.w w' := fun x => implDateOk 0 y m d x.w (HT.out x)
  have K2 : ∀ x : Later W0, Calls Tryd.prog 24 #[.agg #[.int .i64 1, .int .i64 y, .int .i64 m, .int .i64 d]] x.w fun e w' => e = .returned (.bool (dateOk 1 y m d)) ∧ Below x.w.heap.size x.w w' := fun x => implDateOk 1 y m d x.w (HT.out x)
  have K3 : ∀ x : Later W0, Calls Tryd.prog 17 #[.agg #[.int .i64 0, .int .i64 y, .int .i64 m, .int .i64 d]] x.w fun e w' => e = .returned (.int .i64 (dayOf 0 y m d)) ∧ Below x.w.heap.size x.w w' := fun x => implDayOf 0 y m d x.w (HT.out x)
  have K4 : ∀ x : Later W0, Calls Tryd.prog 17 #[.agg #[.int .i64 1, .int .i64 y, .int .i64 m, .int .i64 d]] x.w fun e w' => e = .returned (.int .i64 (dayOf 1 y m d)) ∧ Below x.w.heap.size x.w w' := fun x => implDayOf 1 y m d x.w (HT.out x)
  clear hW0 hT
  by_cases h1 : dateP 0 y m d
  · simp only [dateOk_true h1] at K1
    by_cases h2 : dateP 1 y m d
    · simp only [dateOk_true h2] at K2
      have b1 := dayOf_bound 0 y m d
      have b2 := dayOf_bound 1 y m d
      have e1 : apart y m d = dayOf 0 y m d - dayOf 1 y m d := by unfold apart; rw [if_pos ⟨h1, h2⟩]
      rw [e1]
      clear h1 h2 e1
      generalize dayOf 0 y m d = X at *
      generalize dayOf 1 y m d = Y at *
      go_enter Tryd.func45, Tryd.ntmps45
      go_wp2_with fail
      rw [← HW0.out]
      refine (K1 ⟨W0, Below.refl _ _⟩).mono ?_
      rintro e w1 ⟨rfl, hb⟩
      obtain ⟨x1, rfl⟩ := Later.of hb
      clear hb
      go_wp2_with fail
      refine (K2 x1).mono ?_
      rintro e w1 ⟨rfl, hb⟩
      obtain ⟨x2, rfl⟩ := x1.next hb
      clear hb
      go_wp2_with fail
      first
        | (refine wp_region_later (W := W0) x2.below (by kernel_rfl) (by kernel_rfl) ?_
           repeat (go_big_quiet_step (first | (go_at_call_of 17 (Value.int IntKind.i64 0); exact calls_later (K3 _)) | (go_at_call_of 17 (Value.int IntKind.i64 1); exact calls_later (K4 _))))
           refine wpQuiet_nil ?_
           intro _ hw'
           obtain ⟨x, rfl⟩ := hw'
           go_wp2
           go_ret
           exact ⟨rfl, two_below HW0.out x.below⟩)
        | (refine (K3 x2).mono ?_
           rintro e w1 ⟨rfl, hb⟩
           obtain ⟨x3, rfl⟩ := x2.next hb
           clear hb
           go_wp2_with fail
           refine (K4 x3).mono ?_
           rintro e w1 ⟨rfl, hb⟩
           go_wp2
           go_ret
           exact ⟨rfl, two_below HW0.out (x3.on hb)⟩)
    · simp only [dateOk_false h2] at K2
      rw [apart_no (fun h => h2 h.2)]
      clear h1 h2 K3 K4
      go_enter Tryd.func45, Tryd.ntmps45
      go_wp2_with fail
      rw [← HW0.out]
      refine (K1 ⟨W0, Below.refl _ _⟩).mono ?_
      rintro e w1 ⟨rfl, hb⟩
      obtain ⟨x1, rfl⟩ := Later.of hb
      clear hb
      go_wp2_with fail
      refine (K2 x1).mono ?_
      rintro e w1 ⟨rfl, hb⟩
      obtain ⟨x2, rfl⟩ := x1.next hb
      clear hb
      go_wp2
      go_ret
      exact ⟨rfl, two_below HW0.out x2.below⟩
  · simp only [dateOk_false h1] at K1
    rw [apart_no (fun h => h1 h.1)]
    clear h1 K2 K3 K4
    go_enter Tryd.func45, Tryd.ntmps45
    go_wp2_with fail
    rw [← HW0.out]
    refine (K1 ⟨W0, Below.refl _ _⟩).mono ?_
    rintro e w1 ⟨rfl, hb⟩
    obtain ⟨x1, rfl⟩ := Later.of hb
    clear hb
    go_wp2
    go_ret
    exact ⟨rfl, two_below HW0.out x1.below⟩

end Go.Proofs.YtckjcaloofjeoaaDoor.ctr
