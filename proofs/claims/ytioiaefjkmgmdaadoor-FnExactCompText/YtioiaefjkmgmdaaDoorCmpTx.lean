/- Contracts of both CompText: each answers the code's word, the empty text for no code. -/
import Derived.Test.YtioiaefjkmgmdaaDoorBase
import Derived.Test.YtioiaefjkmgmdaaDoorVarsKit
namespace Go.Proofs.YtioiaefjkmgmdaaDoor.ctr
open Go.RowKit

def cmps : List (List UInt8) := [[111, 107], [98, 105, 103], [115, 121, 110, 116, 97, 120], [111, 118, 101, 114, 108, 97, 112], [104, 111, 108, 101], [111, 116, 104, 101, 114]]
def cmpTx (k : Int) : ByteArray := if 0 ≤ k ∧ k ≤ 5 then ⟨(cmps.getD k.toNat []).toArray⟩ else ⟨#[]⟩
theorem cmp_no {k : Int} (h : ¬ (0 ≤ k ∧ k ≤ 5)) : cmpTx k = ⟨#[]⟩ := by unfold cmpTx; rw [if_neg h]
theorem specCompText (k : Int) (w : World) : Calls Tryd.prog 12 #[.int .i64 k] w fun e w' => e = .returned (.string (cmpTx k)) ∧ Below w.heap.size w w' := by
  by_cases h : 0 ≤ k ∧ k ≤ 5
  · have : k = 0 ∨ k = 1 ∨ k = 2 ∨ k = 3 ∨ k = 4 ∨ k = 5 := by omega
    rcases this with rfl | rfl | rfl | rfl | rfl | rfl
    all_goals
      go_enter Tryd.func12, Tryd.ntmps12
      go_wp2_with fail
      refine (l01In _ _ _ _).mono ?_
      rintro e w1 ⟨rfl, rfl⟩
      rw [inB_true (by omega) (by omega)]
      go_wp2
      go_ret
      exact ⟨rfl, (Below.refl _ _).alloc (Nat.le_refl _) _⟩
  · rw [cmp_no h]
    go_enter Tryd.func12, Tryd.ntmps12
    go_wp2_with fail
    refine (l01In _ _ _ _).mono ?_
    rintro e w1 ⟨rfl, rfl⟩
    rw [inB_false (by omega)]
    go_wp2
    go_ret
    exact ⟨rfl, Below.refl _ _⟩
abbrev TabC (w : World) : Prop := kit.StrIs Tryd.prog w "loop.example/g00638/impl.compTexts" cmps
theorem TabC.later {w w1 : World} (h : TabC w) (hb : Below w.heap.size w w1) : TabC w1 := kit.StrIs.below h hb (g := 0) (by kernel_rfl)
theorem implCompText (k : Int) (w : World) (hT : TabC w) : Calls Tryd.prog 13 #[.int .i64 k] w fun e w' => e = .returned (.string (cmpTx k)) ∧ w' = w := by
  by_cases h1 : k < 0
  · rw [cmp_no (by omega)]
    have hd : decide (k < 0) = true := decide_eq_true h1
    clear hT
    go_enter Tryd.func13, Tryd.ntmps13
    go_wp2
    go_ret
    exact ⟨rfl, rfl⟩
  have hd1 : decide (k < 0) = false := decide_eq_false h1
  by_cases h2 : 6 ≤ k
  · rw [cmp_no (by omega)]
    have hd : decide (6 ≤ k) = true := decide_eq_true h2
    clear hT
    go_enter Tryd.func13, Tryd.ntmps13
    go_wp2
    go_ret
    exact ⟨rfl, rfl⟩
  have : k = 0 ∨ k = 1 ∨ k = 2 ∨ k = 3 ∨ k = 4 ∨ k = 5 := by omega
  rcases this with rfl | rfl | rfl | rfl | rfl | rfl
  · have c := hT.cell (g := 0) (by kernel_rfl) 0 (by decide)
    clear hT h1 h2 hd1
    go_enter Tryd.func13, Tryd.ntmps13
    go_wp2
    go_ret
    exact ⟨rfl, rfl⟩
  · have c := hT.cell (g := 0) (by kernel_rfl) 1 (by decide)
    clear hT h1 h2 hd1
    go_enter Tryd.func13, Tryd.ntmps13
    go_wp2
    go_ret
    exact ⟨rfl, rfl⟩
  · have c := hT.cell (g := 0) (by kernel_rfl) 2 (by decide)
    clear hT h1 h2 hd1
    go_enter Tryd.func13, Tryd.ntmps13
    go_wp2
    go_ret
    exact ⟨rfl, rfl⟩
  · have c := hT.cell (g := 0) (by kernel_rfl) 3 (by decide)
    clear hT h1 h2 hd1
    go_enter Tryd.func13, Tryd.ntmps13
    go_wp2
    go_ret
    exact ⟨rfl, rfl⟩
  · have c := hT.cell (g := 0) (by kernel_rfl) 4 (by decide)
    clear hT h1 h2 hd1
    go_enter Tryd.func13, Tryd.ntmps13
    go_wp2
    go_ret
    exact ⟨rfl, rfl⟩
  · have c := hT.cell (g := 0) (by kernel_rfl) 5 (by decide)
    clear hT h1 h2 hd1
    go_enter Tryd.func13, Tryd.ntmps13
    go_wp2
    go_ret
    exact ⟨rfl, rfl⟩
end Go.Proofs.YtioiaefjkmgmdaaDoor.ctr
