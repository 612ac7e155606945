/- Contracts of the program's calendars' own rules of Easter: yearOk, epact, fullMoon, closedSum of julian and gregorian. -/
import Derived.Test.YtckjcaloofjeoaaDoorEasSpec
import Derived.Test.YtckjcaloofjeoaaDoorBlkKit
namespace Go.Proofs.YtckjcaloofjeoaaDoor.ctr
open Go.RowKit

theorem implYearOk (c y : Int) (w : World) (hT : Tab w) : Calls Tryd.prog 97 #[.int .i64 c, .int .i64 y] w fun e w' => e = .returned (.bool (yearB c y)) ∧ Below w.heap.size w w' := by
  have K : Calls Tryd.prog 24 #[.agg #[.int .i64 c, .int .i64 y, .int .i64 1, .int .i64 1]] w fun e w' => e = .returned (.bool (yearB c y)) ∧ Below w.heap.size w w' := by
    rw [← dateOk_year]
    exact implDateOk c y 1 1 w hT
  clear hT
  generalize yearB c y = b at *
  go_enter Tryd.func97, Tryd.ntmps97
  go_wp2_with fail
  refine K.mono ?_
  rintro e w1 ⟨rfl, hb⟩
  go_wp2
  go_ret
  exact ⟨rfl, hb⟩

theorem julEpact (g y : Int) (w : World) (h1 : 1 ≤ g) (h2 : g ≤ 19) : Calls Tryd.prog 129 #[.agg #[], .int .i64 g, .int .i64 y] w fun e w' => e = .returned (.int .i64 (ep 0 g y)) ∧ Below w.heap.size w w' := by
  have HR : Hid (ep 0 g y = 11 * (g - 1) % 30) := by unfold Hid ep; rw [if_pos rfl]
  go_enter Tryd.func129, Tryd.ntmps129
  go_wp2
  go_ret
  exact ⟨ret_int HR.out.symm, (Below.refl _ _).alloc (Nat.le_refl _) _⟩
theorem julFull (g x : Int) (w : World) (h1 : 1 ≤ g) (h2 : g ≤ 19) : Calls Tryd.prog 130 #[.agg #[], .int .i64 g, .int .i64 x] w fun e w' => e = .returned (.int .i64 (moonN 0 g x)) ∧ Below w.heap.size w w' := by
  have HR : Hid (moonN 0 g x = 20 + (19 * (g - 1) + 15) % 30) := by unfold Hid moonN; rw [if_pos rfl]
  go_enter Tryd.func130, Tryd.ntmps130
  go_wp2
  go_ret
  exact ⟨ret_int HR.out.symm, (Below.refl _ _).alloc (Nat.le_refl _) _⟩
theorem greFull (g x : Int) (w : World) (h1 : 0 ≤ x) (h2 : x ≤ 30) : Calls Tryd.prog 134 #[.agg #[], .int .i64 g, .int .i64 x] w fun e w' => e = .returned (.int .i64 (moonN 1 g x)) ∧ Below w.heap.size w w' := by
  by_cases hl : 43 - x < 20
  · have HR : Hid (moonN 1 g x = 43 - x + 30) := by unfold Hid moonN; rw [if_neg (show ¬ (1 : Int) = 0 by omega), if_pos hl]
    go_enter Tryd.func134, Tryd.ntmps134
    go_wp2
    go_ret
    exact ⟨ret_int HR.out.symm, (Below.refl _ _).alloc (Nat.le_refl _) _⟩
  · have HR : Hid (moonN 1 g x = 43 - x) := by unfold Hid moonN; rw [if_neg (show ¬ (1 : Int) = 0 by omega), if_neg hl]
    go_enter Tryd.func134, Tryd.ntmps134
    go_wp2
    go_ret
    exact ⟨ret_int HR.out.symm, (Below.refl _ _).alloc (Nat.le_refl _) _⟩
theorem adj_b {E g : Int} (h : 0 ≤ E ∧ E ≤ 29) : 0 ≤ adjG E g ∧ adjG E g ≤ 30 := by
  unfold adjG
  split <;> omega
theorem ep_b (c g y : Int) : 0 ≤ ep c g y ∧ ep c g y ≤ 30 := by
  unfold ep
  split
  · omega
  · exact adj_b (by unfold e0G; omega)

set_option maxHeartbeats 1000000 in
theorem greEpact (g y : Int) (w : World) (h1 : 1 ≤ g) (h2 : g ≤ 19) (hy1 : 1 ≤ y) (hy2 : y ≤ 3000) : Calls Tryd.prog 133 #[.agg #[], .int .i64 g, .int .i64 y] w fun e w' => e = .returned (.int .i64 (ep 1 g y)) ∧ Below w.heap.size w w' := by
  have HR : Hid (ep 1 g y = adjG (e0G g y) g) := by unfold Hid ep; rw [if_neg (by omega)]
  obtain ⟨E, hE⟩ : ∃ E, E = e0G g y := ⟨_, rfl⟩
  have hE1 : 0 ≤ E ∧ E ≤ 29 := by rw [hE]; unfold e0G; omega
  rw [← hE] at HR
  have KF : ∀ W z, z = 11 * g + 20 + ((8 * (y / 100 + 1) + 5) / 25 - 5) - (3 * (y / 100 + 1) / 4 - 12) → Calls Tryd.prog 94 #[.int .i64 z, .int .i64 30] W fun e w' => e = .returned (.int .i64 E) ∧ w' = W := fun W z hz => by
    have k := implFloorMod z 30 W (by omega)
    rw [floorMod_pos _ (by omega) (by omega), show z % 30 = E from by rw [hE, hz]; unfold e0G; congr 1; omega] at k
    exact k
  clear hE
  by_cases h24 : E = 24
  · subst h24
    have HA : Hid (adjG 24 g = 25) := by unfold Hid adjG; rw [if_pos (.inl rfl)]; rfl
    go_enter Tryd.func133, Tryd.ntmps133
    go_wp2_with fail
    refine (KF _ _ (by omega)).mono ?_
    rintro e w1 ⟨rfl, rfl⟩
    go_wp2
    go_ret
    exact ⟨ret_int (by rw [HR.out, HA.out]), (Below.refl _ _).alloc (Nat.le_refl _) _⟩
  by_cases h25 : E = 25
  · subst h25
    by_cases hg11 : 11 < g
    · have HA : Hid (adjG 25 g = 26) := by unfold Hid adjG; rw [if_pos (.inr ⟨rfl, hg11⟩)]; rfl
      go_enter Tryd.func133, Tryd.ntmps133
      go_wp2_with fail
      refine (KF _ _ (by omega)).mono ?_
      rintro e w1 ⟨rfl, rfl⟩
      go_wp2
      go_ret
      exact ⟨ret_int (by rw [HR.out, HA.out]), (Below.refl _ _).alloc (Nat.le_refl _) _⟩
    · have HA : Hid (adjG 25 g = 25) := by unfold Hid adjG; rw [if_neg (by omega)]
      go_enter Tryd.func133, Tryd.ntmps133
      go_wp2_with fail
      refine (KF _ _ (by omega)).mono ?_
      rintro e w1 ⟨rfl, rfl⟩
      go_wp2
      go_ret
      exact ⟨ret_int (by rw [HR.out, HA.out]), (Below.refl _ _).alloc (Nat.le_refl _) _⟩
  · have HA : Hid (adjG E g = E) := by unfold Hid adjG; rw [if_neg (by omega)]
    go_enter Tryd.func133, Tryd.ntmps133
    go_wp2_with fail
    refine (KF _ _ (by omega)).mono ?_
    rintro e w1 ⟨rfl, rfl⟩
    go_wp2
    go_ret
    exact ⟨ret_int (by rw [HR.out, HA.out]), (Below.refl _ _).alloc (Nat.le_refl _) _⟩

theorem julSum (y : Int) (w : World) (h1 : 1 ≤ y) (h2 : y ≤ 4000) : Calls Tryd.prog 128 #[.agg #[], .int .i64 y] w fun e w' => e = .returned (.int .i64 (sumJ y)) ∧ Below w.heap.size w w' := by
  obtain ⟨R, hR⟩ : ∃ R, R = sumJ y := ⟨_, rfl⟩
  rw [← hR]
  have HR := hideP hR
  clear hR
  unfold sumJ at HR
  go_enter Tryd.func128, Tryd.ntmps128
  go_wp2
  go_ret
  exact ⟨ret_int (by rw [HR.out]; unfold dJ; omega), (Below.refl _ _).alloc (Nat.le_refl _) _⟩
theorem greSum (y : Int) (w : World) (h1 : 1 ≤ y) (h2 : y ≤ 4000) : Calls Tryd.prog 132 #[.agg #[], .int .i64 y] w fun e w' => e = .returned (.int .i64 (sumG y)) ∧ Below w.heap.size w w' := by
  obtain ⟨R, hR⟩ : ∃ R, R = sumG y := ⟨_, rfl⟩
  rw [← hR]
  have HR := hideP hR
  clear hR
  go_enter Tryd.func132, Tryd.ntmps132
  go_wp2
  go_ret
  exact ⟨ret_int (by rw [HR.out]; unfold sumG mG lG hG gG; rw [show y % 100 % 4 = y % 4 by omega]), (Below.refl _ _).alloc (Nat.le_refl _) _⟩
end Go.Proofs.YtckjcaloofjeoaaDoor.ctr
