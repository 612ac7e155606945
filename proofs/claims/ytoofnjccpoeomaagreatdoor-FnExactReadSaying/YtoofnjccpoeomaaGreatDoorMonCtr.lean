/- Contracts of the model's MonthName and of the program's MonthName: each answers the plain function monthText, at every argument, where the program's table of months holds its texts. -/
import Derived.Test.YtoofnjccpoeomaaGreatDoorVarsKit
import Derived.Test.YtoofnjccpoeomaaGreatDoorBase
namespace Go.Proofs.YtoofnjccpoeomaaGreatDoor.ctr
open Go.RowKit

def mons : List (List UInt8) := [[106, 97, 110], [102, 101, 98], [109, 97, 114], [97, 112, 114], [109, 97, 121], [106, 117, 110], [106, 117, 108], [97, 117, 103], [115, 101, 112], [111, 99, 116], [110, 111, 118], [100, 101, 99]]
def monthText (m : Int) : ByteArray := ⟨(if 1 ≤ m ∧ m ≤ 12 then mons.getD (m - 1).toNat [] else []).toArray⟩
theorem monthText_no {m : Int} (h : m < 1 ∨ 12 < m) : monthText m = ⟨#[]⟩ := by unfold monthText; rw [if_neg (by omega)]
theorem mon_cases {m : Int} (h1 : 1 ≤ m) (h2 : m ≤ 12) : m = 1 ∨ m = 2 ∨ m = 3 ∨ m = 4 ∨ m = 5 ∨ m = 6 ∨ m = 7 ∨ m = 8 ∨ m = 9 ∨ m = 10 ∨ m = 11 ∨ m = 12 := by omega

set_option maxHeartbeats 400000 in
theorem specMonthName (m : Int) (w : World) :
    Calls Tryz.prog 19 #[.int .i64 m] w fun e w' => e = .returned (.string (monthText m)) ∧ Below w.heap.size w w' := by
  by_cases h1 : m < 1
  · rw [monthText_no (.inl h1)]
    go_enter Tryz.func19, Tryz.ntmps19
    go_wp2
    go_ret
    exact ⟨rfl, Below.refl _ _⟩
  by_cases h2 : 12 < m
  · rw [monthText_no (.inr h2)]
    have hd : decide (m ≤ 12) = false := by simp; omega
    go_enter Tryz.func19, Tryz.ntmps19
    go_wp2
    go_ret
    exact ⟨rfl, Below.refl _ _⟩
  rcases mon_cases (m := m) (by omega) (by omega) with rfl | rfl | rfl | rfl | rfl | rfl | rfl | rfl | rfl | rfl | rfl | rfl
  all_goals
    go_enter Tryz.func19, Tryz.ntmps19
    go_wp2
    go_ret
    exact ⟨rfl, (Below.refl _ _).alloc (Nat.le_refl _) _⟩

theorem implMonthName (m : Int) (w : World) (hT : kit.StrIs Tryz.prog w "loop.example/g00638/impl.monthNames" mons) :
    Calls Tryz.prog 45 #[.int .i64 m] w fun e w' => e = .returned (.string (monthText m)) ∧ w' = w := by
  by_cases h1 : m < 1
  · rw [monthText_no (.inl h1)]
    clear hT
    go_enter Tryz.func45, Tryz.ntmps45
    go_wp2
    go_ret
    exact ⟨rfl, rfl⟩
  by_cases h2 : 12 < m
  · rw [monthText_no (.inr h2)]
    clear hT
    go_enter Tryz.func45, Tryz.ntmps45
    go_wp2
    go_ret
    exact ⟨rfl, rfl⟩
  rcases mon_cases (m := m) (by omega) (by omega) with rfl | rfl | rfl | rfl | rfl | rfl | rfl | rfl | rfl | rfl | rfl | rfl
  · have c := hT.cell (g := 0) (by kernel_rfl) 0 (by decide)
    clear hT h1 h2
    go_enter Tryz.func45, Tryz.ntmps45
    go_wp2
    go_ret
    exact ⟨rfl, rfl⟩
  · have c := hT.cell (g := 0) (by kernel_rfl) 1 (by decide)
    clear hT h1 h2
    go_enter Tryz.func45, Tryz.ntmps45
    go_wp2
    go_ret
    exact ⟨rfl, rfl⟩
  · have c := hT.cell (g := 0) (by kernel_rfl) 2 (by decide)
    clear hT h1 h2
    go_enter Tryz.func45, Tryz.ntmps45
    go_wp2
    go_ret
    exact ⟨rfl, rfl⟩
  · have c := hT.cell (g := 0) (by kernel_rfl) 3 (by decide)
    clear hT h1 h2
    go_enter Tryz.func45, Tryz.ntmps45
    go_wp2
    go_ret
    exact ⟨rfl, rfl⟩
  · have c := hT.cell (g := 0) (by kernel_rfl) 4 (by decide)
    clear hT h1 h2
    go_enter Tryz.func45, Tryz.ntmps45
    go_wp2
    go_ret
    exact ⟨rfl, rfl⟩
  · have c := hT.cell (g := 0) (by kernel_rfl) 5 (by decide)
    clear hT h1 h2
    go_enter Tryz.func45, Tryz.ntmps45
    go_wp2
    go_ret
    exact ⟨rfl, rfl⟩
  · have c := hT.cell (g := 0) (by kernel_rfl) 6 (by decide)
    clear hT h1 h2
    go_enter Tryz.func45, Tryz.ntmps45
    go_wp2
    go_ret
    exact ⟨rfl, rfl⟩
  · have c := hT.cell (g := 0) (by kernel_rfl) 7 (by decide)
    clear hT h1 h2
    go_enter Tryz.func45, Tryz.ntmps45
    go_wp2
    go_ret
    exact ⟨rfl, rfl⟩
  · have c := hT.cell (g := 0) (by kernel_rfl) 8 (by decide)
    clear hT h1 h2
    go_enter Tryz.func45, Tryz.ntmps45
    go_wp2
    go_ret
    exact ⟨rfl, rfl⟩
  · have c := hT.cell (g := 0) (by kernel_rfl) 9 (by decide)
    clear hT h1 h2
    go_enter Tryz.func45, Tryz.ntmps45
    go_wp2
    go_ret
    exact ⟨rfl, rfl⟩
  · have c := hT.cell (g := 0) (by kernel_rfl) 10 (by decide)
    clear hT h1 h2
    go_enter Tryz.func45, Tryz.ntmps45
    go_wp2
    go_ret
    exact ⟨rfl, rfl⟩
  · have c := hT.cell (g := 0) (by kernel_rfl) 11 (by decide)
    clear hT h1 h2
    go_enter Tryz.func45, Tryz.ntmps45
    go_wp2
    go_ret
    exact ⟨rfl, rfl⟩
end Go.Proofs.YtoofnjccpoeomaaGreatDoor.ctr
