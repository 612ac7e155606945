/- What a tied card's proof wants of listed variables: two or three of them are so many data; the one row of the type that errors.New makes; the listed sentinel. What a law is told of a list of structs of ints that comes in: its ints are ints of 64 bits. From a walk in one goroutine to a row that says 'leaving', and its tied card where the call can start goroutines: where all others have ended, they are only leaving. Contracts of both Shift: how far a day of a right regime is from the day that its date is by CGre; 0 and false where there is none. -/
import Derived.Test.YtilpencbbdpgfaaGreatDoorJnQah
import Derived.Test.YtilpencbbdpgfaaGreatDoorJnQak
import Derived.Stop.LaidErr
import Derived.Test.YtilpencbbdpgfaaGreatDoorJnQaa
import Derived.Conc.Holds
import Derived.SevenTiedAt
import Derived.Leaving
import Derived.Test.YtilpencbbdpgfaaGreatDoorJnQaz
namespace Go.Proofs.YtilpencbbdpgfaaGreatDoor.kit
open Go.RowKit
theorem gs_two {H : Type} {enc : TypeId × Value → H} {P : Program} {W : World} {sp : Nat → Bool} {a b : String} {gs : List (DataW H)} {q : List MemPlace} (h : DataW.TrodVars enc P W sp [a, b] gs q) : ∃ g1 g2, gs = [g1, g2] := by
  match gs, h with
  | [], h => exact h.elim
  | [g1], h =>
    obtain ⟨_, _, _, _, _, _, _, _, _, _, h5, _⟩ := h
    exact h5.elim
  | [g1, g2], _ => exact ⟨g1, g2, rfl⟩
  | g1 :: g2 :: g3 :: r, h =>
    obtain ⟨_, _, _, _, _, _, _, _, _, _, h5, _⟩ := h
    obtain ⟨_, _, _, _, _, _, _, _, _, _, h6, _⟩ := h5
    exact h6.elim
theorem star : "*" ++ "errors.errorString" = "*errors.errorString" := by decide
theorem rowErr (u : TypeId) (h : Tryz.prog.typeName? 3 u = some "*errors.errorString") : u = 380 :=
  typeName_ptr_named (nm := "errors.errorString") (by rw [star]; kernel_rfl) (by kernel_rfl) (by decide) u (by rw [star]; exact h)
theorem cellsErr : Tryz.prog.cellsOf 399 = 1 := by kernel_rfl
theorem cellsStr : Tryz.prog.cellsOf 9 = 1 := by kernel_rfl
theorem gErr : Tryz.prog.globalNamed "loop.example/g00638/impl.errNoTable" = some 0 := by kernel_rfl
theorem gErrType : (Tryz.prog.globals[0]?).map (·.type) = some 192 := by kernel_rfl
theorem sent_of {text : List UInt8} {r : List (String × DataW Unit)} {W : World} (h : laidMet Tryz.prog (("loop.example/g00638/impl.errNoTable", .iface "*errors.errorString" (.ptr (.agg [.lit (.string text)]))) :: r) W) : ∃ a, ctr.Sent W a := by
  obtain ⟨a, s, hv, _⟩ := laid_sentinel h gErr gErrType Tryz.underlying192 rowErr Tryz.underlying380 Tryz.underlying399 rfl rfl Tryz.underlying9 cellsErr cellsStr
  exact ⟨a, by unfold ctr.Sent; simpa using World.var?_cell gErr hv 0⟩
end Go.Proofs.YtilpencbbdpgfaaGreatDoor.kit
namespace Go.Proofs.YtilpencbbdpgfaaGreatDoor.kit
open Go.RowKit Go.WideShapes Go.Deep Go.ChangeShapes
theorem wf_bounds {z : Int} (h : (Lit.int .i64 z).wf = true) : -9223372036854775808 ≤ z ∧ z ≤ 9223372036854775807 := by
  have h' : (decide (IntKind.i64.min ≤ z) && decide (z ≤ IntKind.i64.max)) = true := h
  rw [show IntKind.i64.min = -9223372036854775808 from rfl, show IntKind.i64.max = 9223372036854775807 from rfl] at h'
  simpa using h'
end Go.Proofs.YtilpencbbdpgfaaGreatDoor.kit
namespace Go.Proofs.YtilpencbbdpgfaaGreatDoor.kit
open Go
end Go.Proofs.YtilpencbbdpgfaaGreatDoor.kit
namespace Go.Proofs.YtilpencbbdpgfaaGreatDoor.ctr
open Go.RowKit
theorem day_in {r : Rgm} {n : Int} (h : regimeB r = true) (h1 : r.fr ≤ n) (h2 : n ≤ r.to) : 400 ≤ n ∧ n ≤ 1090000 := by
  rcases segAt_cases r.segs n with ⟨k, _⟩ | ⟨j, hj, k, k1, k2⟩
  · have := (seg_fact h n).2 ⟨h1, h2⟩; omega
  · have := segOk_nums (right_seg h hj).1; omega
theorem plainR_yes {c : Int} {x : Rdg} (h : dateOk c x.sol x.mon x.day = true) : plainR c x = .tuple #[.agg #[.int .i64 c, .int .i64 x.sol, .int .i64 x.mon, .int .i64 x.day], .bool true] := by unfold plainR; rw [if_pos h]
theorem plainR_no {c : Int} {x : Rdg} (h : ¬ dateOk c x.sol x.mon x.day = true) : plainR c x = .tuple #[.agg #[.int .i64 0, .int .i64 0, .int .i64 0, .int .i64 0], .bool false] := by unfold plainR; rw [if_neg h]
end Go.Proofs.YtilpencbbdpgfaaGreatDoor.ctr
