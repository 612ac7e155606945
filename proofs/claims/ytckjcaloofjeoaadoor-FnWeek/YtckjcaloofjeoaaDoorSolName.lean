/- Contracts of WeekdayName, the model's and the program's: each answers the plain function dayText, at every argument, where the program's table of weekdays holds its texts. -/
import Derived.Test.YtckjcaloofjeoaaDoorVarsKit
import Derived.Test.YtckjcaloofjeoaaDoorBase
namespace Go.Proofs.YtckjcaloofjeoaaDoor.ctr
open Go.RowKit

def weekdays : List (List UInt8) := [[115, 117, 110], [109, 111, 110], [116, 117, 101], [119, 101, 100], [116, 104, 117], [102, 114, 105], [115, 97, 116]]
def dayText (n : Int) : ByteArray := ⟨(if 0 ≤ n ∧ n ≤ 6 then weekdays.getD n.toNat [] else []).toArray⟩
theorem dayText_no {n : Int} (h : n < 0 ∨ 6 < n) : dayText n = ⟨#[]⟩ := by unfold dayText; rw [if_neg (by omega)]
theorem day_cases {n : Int} (h1 : 0 ≤ n) (h2 : n ≤ 6) : n = 0 ∨ n = 1 ∨ n = 2 ∨ n = 3 ∨ n = 4 ∨ n = 5 ∨ n = 6 := by omega
abbrev Days (w : World) : Prop := kit.StrIs Tryd.prog w "loop.example/g00638/impl.weekdayNames" weekdays
theorem Days.later {w w1 : World} (h : Days w) (hb : Below w.heap.size w w1) : Days w1 := kit.StrIs.below h hb (g := 1) (by kernel_rfl)

set_option maxHeartbeats 400000 in
theorem specWeekdayName (n : Int) (w : World) :
    Calls Tryd.prog 42 #[.int .i64 n] w fun e w' => e = .returned (.string (dayText n)) ∧ Below w.heap.size w w' := by
  by_cases h : n < 0 ∨ 6 < n
  · rw [dayText_no h]
    have K := fun W => l01In n 0 6 W
    rw [inB_false h] at K
    clear h
    go_enter Tryd.func42, Tryd.ntmps42
    go_wp2_with (go_at_call 83; refine (K _).mono ?_; rintro e w1 ⟨rfl, rfl⟩)
    go_ret
    exact ⟨rfl, Below.refl _ _⟩
  have K := fun W => l01In n 0 6 W
  rw [inB_true (by omega) (by omega)] at K
  rcases day_cases (n := n) (by omega) (by omega) with rfl | rfl | rfl | rfl | rfl | rfl | rfl
  all_goals
    clear h
    go_enter Tryd.func42, Tryd.ntmps42
    go_wp2_with (go_at_call 83; refine (K _).mono ?_; rintro e w1 ⟨rfl, rfl⟩)
    go_ret
    exact ⟨rfl, (Below.refl _ _).alloc (Nat.le_refl _) _⟩

theorem implWeekdayName (n : Int) (w : World) (hT : Days w) :
    Calls Tryd.prog 41 #[.int .i64 n] w fun e w' => e = .returned (.string (dayText n)) ∧ w' = w := by
  by_cases h1 : n < 0
  · rw [dayText_no (.inl h1)]
    clear hT
    go_enter Tryd.func41, Tryd.ntmps41
    go_wp2
    go_ret
    exact ⟨rfl, rfl⟩
  by_cases h2 : 6 < n
  · rw [dayText_no (.inr h2)]
    clear hT
    go_enter Tryd.func41, Tryd.ntmps41
    go_wp2
    go_ret
    exact ⟨rfl, rfl⟩
  rcases day_cases (n := n) (by omega) (by omega) with rfl | rfl | rfl | rfl | rfl | rfl | rfl
  · have c := hT.cell (g := 1) (by kernel_rfl) 0 (by decide)
    clear hT h1 h2
    go_enter Tryd.func41, Tryd.ntmps41
    go_wp2
    go_ret
    exact ⟨rfl, rfl⟩
  · have c := hT.cell (g := 1) (by kernel_rfl) 1 (by decide)
    clear hT h1 h2
    go_enter Tryd.func41, Tryd.ntmps41
    go_wp2
    go_ret
    exact ⟨rfl, rfl⟩
  · have c := hT.cell (g := 1) (by kernel_rfl) 2 (by decide)
    clear hT h1 h2
    go_enter Tryd.func41, Tryd.ntmps41
    go_wp2
    go_ret
    exact ⟨rfl, rfl⟩
  · have c := hT.cell (g := 1) (by kernel_rfl) 3 (by decide)
    clear hT h1 h2
    go_enter Tryd.func41, Tryd.ntmps41
    go_wp2
    go_ret
    exact ⟨rfl, rfl⟩
  · have c := hT.cell (g := 1) (by kernel_rfl) 4 (by decide)
    clear hT h1 h2
    go_enter Tryd.func41, Tryd.ntmps41
    go_wp2
    go_ret
    exact ⟨rfl, rfl⟩
  · have c := hT.cell (g := 1) (by kernel_rfl) 5 (by decide)
    clear hT h1 h2
    go_enter Tryd.func41, Tryd.ntmps41
    go_wp2
    go_ret
    exact ⟨rfl, rfl⟩
  · have c := hT.cell (g := 1) (by kernel_rfl) 6 (by decide)
    clear hT h1 h2
    go_enter Tryd.func41, Tryd.ntmps41
    go_wp2
    go_ret
    exact ⟨rfl, rfl⟩
end Go.Proofs.YtckjcaloofjeoaaDoor.ctr
