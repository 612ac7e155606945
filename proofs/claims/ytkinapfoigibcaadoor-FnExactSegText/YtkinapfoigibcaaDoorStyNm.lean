/- Contract of the program's StyleName, where its table of styles holds its texts. -/
import Derived.Test.YtkinapfoigibcaaDoorVarsKit
import Derived.Test.YtkinapfoigibcaaDoorStyBase
namespace Go.Proofs.YtkinapfoigibcaaDoor.ctr
open Go.RowKit

/-- The program's table of styles holds its texts. -/
abbrev TabS (w : World) : Prop := kit.StrIs Tryd.prog w "loop.example/g00638/impl.styleNames" stys
theorem TabS.later {w w1 : World} (h : TabS w) (hb : Below w.heap.size w w1) : TabS w1 := kit.StrIs.below h hb (g := 1) (by kernel_rfl)
theorem implStyleName (s : Int) (w : World) (hT : TabS w) : Calls Tryd.prog 23 #[.int .i64 s] w fun e w' => e = .returned (.string (styText s)) ∧ w' = w := by
  have KI := implStyleOk s w
  by_cases h : styleP s
  · rw [styleB_true h] at KI
    rcases style_cases h with rfl | rfl | rfl | rfl | rfl | rfl | rfl
    · have c := hT.cell (g := 1) (by kernel_rfl) 0 (by decide)
      clear hT h
      go_enter Tryd.func23, Tryd.ntmps23
      go_wp2_with fail
      refine KI.mono ?_
      rintro e w1 ⟨rfl, rfl⟩
      go_wp2
      go_ret
      exact ⟨rfl, rfl⟩
    · have c := hT.cell (g := 1) (by kernel_rfl) 1 (by decide)
      clear hT h
      go_enter Tryd.func23, Tryd.ntmps23
      go_wp2_with fail
      refine KI.mono ?_
      rintro e w1 ⟨rfl, rfl⟩
      go_wp2
      go_ret
      exact ⟨rfl, rfl⟩
    · have c := hT.cell (g := 1) (by kernel_rfl) 2 (by decide)
      clear hT h
      go_enter Tryd.func23, Tryd.ntmps23
      go_wp2_with fail
      refine KI.mono ?_
      rintro e w1 ⟨rfl, rfl⟩
      go_wp2
      go_ret
      exact ⟨rfl, rfl⟩
    · have c := hT.cell (g := 1) (by kernel_rfl) 3 (by decide)
      clear hT h
      go_enter Tryd.func23, Tryd.ntmps23
      go_wp2_with fail
      refine KI.mono ?_
      rintro e w1 ⟨rfl, rfl⟩
      go_wp2
      go_ret
      exact ⟨rfl, rfl⟩
    · have c := hT.cell (g := 1) (by kernel_rfl) 4 (by decide)
      clear hT h
      go_enter Tryd.func23, Tryd.ntmps23
      go_wp2_with fail
      refine KI.mono ?_
      rintro e w1 ⟨rfl, rfl⟩
      go_wp2
      go_ret
      exact ⟨rfl, rfl⟩
    · have c := hT.cell (g := 1) (by kernel_rfl) 5 (by decide)
      clear hT h
      go_enter Tryd.func23, Tryd.ntmps23
      go_wp2_with fail
      refine KI.mono ?_
      rintro e w1 ⟨rfl, rfl⟩
      go_wp2
      go_ret
      exact ⟨rfl, rfl⟩
    · have c := hT.cell (g := 1) (by kernel_rfl) 6 (by decide)
      clear hT h
      go_enter Tryd.func23, Tryd.ntmps23
      go_wp2_with fail
      refine KI.mono ?_
      rintro e w1 ⟨rfl, rfl⟩
      go_wp2
      go_ret
      exact ⟨rfl, rfl⟩
  · rw [styleB_false h] at KI
    rw [styText_no h]
    clear h hT
    go_enter Tryd.func23, Tryd.ntmps23
    go_wp2_with fail
    refine KI.mono ?_
    rintro e w1 ⟨rfl, rfl⟩
    go_wp2
    go_ret
    exact ⟨rfl, rfl⟩

def styB (j : Nat) : ByteArray := ⟨(stys.getD j []).toArray⟩
def styOf (s : ByteArray) : Int := if (stys.findIdx fun l => l == s.data.toList) < 7 then ((stys.findIdx fun l => l == s.data.toList : Nat) : Int) else -1
end Go.Proofs.YtkinapfoigibcaaDoor.ctr
