/- What the laws of chapter 5 use besides: four listed variables; the contracts of the laws' own toDate, eqDate, toRoman and eqRoman. -/
import Derived.Test.YtnjfhfjnbimdlaaDoorRomKit
import Derived.Test.YtnjfhfjnbimdlaaDoorVarsKit
namespace Go.Proofs.YtnjfhfjnbimdlaaDoor.kit
theorem gs_len {H : Type} {enc : TypeId × Value → H} {P : Program} {W : World} {sp : Nat → Bool} : ∀ {ns : List String} {gs : List (DataW H)} {q : List MemPlace}, DataW.TrodVars enc P W sp ns gs q → gs.length = ns.length
  | [], [], _, _ => rfl
  | [], _ :: _, _, h => h.elim
  | _ :: _, [], _, h => h.elim
  | _ :: ns, _ :: gs, _, h => by
    obtain ⟨_, _, _, _, _, _, _, _, _, _, h5, _⟩ := h
    simp [gs_len h5]
theorem gs_four {H : Type} {enc : TypeId × Value → H} {P : Program} {W : World} {sp : Nat → Bool} {a b c d : String} {gs : List (DataW H)} {q : List MemPlace} (h : DataW.TrodVars enc P W sp [a, b, c, d] gs q) : ∃ g1 g2 g3 g4, gs = [g1, g2, g3, g4] := by
  have hl := gs_len h
  match gs, hl with
  | [g1, g2, g3, g4], _ => exact ⟨g1, g2, g3, g4, rfl⟩
end Go.Proofs.YtnjfhfjnbimdlaaDoor.kit
namespace Go.Proofs.YtnjfhfjnbimdlaaDoor.ctr
open Go.RowKit

theorem lawToDate (a b c d : Int) (w : World) : Calls Tryd.prog 46 #[.agg #[.int .i64 a, .int .i64 b, .int .i64 c, .int .i64 d]] w fun e w' => e = .returned (.agg #[.int .i64 a, .int .i64 b, .int .i64 c, .int .i64 d]) ∧ Below w.heap.size w w' := by
  go_enter Tryd.func46, Tryd.ntmps46
  go_wp2
  go_returns
  refine ⟨rfl, ?_⟩
  go_grown
theorem lawToRoman (a b c : Int) (d : Bool) (w : World) : Calls Tryd.prog 48 #[.agg #[.int .i64 a, .int .i64 b, .int .i64 c, .bool d]] w fun e w' => e = .returned (.agg #[.int .i64 a, .int .i64 b, .int .i64 c, .bool d]) ∧ Below w.heap.size w w' := by
  go_enter Tryd.func48, Tryd.ntmps48
  go_wp2
  go_returns
  refine ⟨rfl, ?_⟩
  go_grown
theorem lawEqDate (a b c d : Int) (w : World) : Calls Tryd.prog 49 #[.agg #[.int .i64 a, .int .i64 b, .int .i64 c, .int .i64 d], .agg #[.int .i64 a, .int .i64 b, .int .i64 c, .int .i64 d]] w fun e w' => e = .returned (.bool true) ∧ Below w.heap.size w w' := by
  obtain ⟨W0, hW0, hD, hR, hBl⟩ := two_box w #[.int .i64 a, .int .i64 b, .int .i64 c, .int .i64 d] #[.int .i64 a, .int .i64 b, .int .i64 c, .int .i64 d] 25 25
  have HW0 := hideP hW0
  have HBl := hideP hBl
  obtain ⟨x0, hx0⟩ := Later.of (Below.refl W0.heap.size W0)
  have HX0 := hideP hx0
  clear hW0 hD hR hBl hx0
  go_enter Tryd.func49, Tryd.ntmps49
  go_wp2_with fail
  rw [← HW0.out]
  go_ret
  rw [HX0.out]
  exact ⟨rfl, HBl.out x0⟩
theorem lawEqRoman (a b c : Int) (d : Bool) (w : World) : Calls Tryd.prog 47 #[.agg #[.int .i64 a, .int .i64 b, .int .i64 c, .bool d], .agg #[.int .i64 a, .int .i64 b, .int .i64 c, .bool d]] w fun e w' => e = .returned (.bool true) ∧ Below w.heap.size w w' := by
  obtain ⟨W0, hW0, hD, hR, hBl⟩ := two_box w #[.int .i64 a, .int .i64 b, .int .i64 c, .bool d] #[.int .i64 a, .int .i64 b, .int .i64 c, .bool d] 38 38
  have HW0 := hideP hW0
  have HBl := hideP hBl
  obtain ⟨x0, hx0⟩ := Later.of (Below.refl W0.heap.size W0)
  have HX0 := hideP hx0
  clear hW0 hD hR hBl hx0
  go_enter Tryd.func47, Tryd.ntmps47
  go_wp2_with fail
  rw [← HW0.out]
  go_ret
  rw [HX0.out]
  exact ⟨rfl, HBl.out x0⟩
end Go.Proofs.YtnjfhfjnbimdlaaDoor.ctr
