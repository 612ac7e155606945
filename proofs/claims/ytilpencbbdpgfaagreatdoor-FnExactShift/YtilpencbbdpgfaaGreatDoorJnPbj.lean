/- What a tied card's proof wants of the listed handle errors.errorType. What a tied card's proof wants of listed variables: two or three of them are so many data; the one row of the type that errors.New makes; the listed sentinel. What a law is told of a list of structs of ints that comes in: its ints are ints of 64 bits. -/
import Derived.Test.YtilpencbbdpgfaaGreatDoorJnPat
import Derived.LaidLaws
import Derived.LaidHandle
import Derived.Test.YtilpencbbdpgfaaGreatDoorJnPaa
import Derived.Test.YtilpencbbdpgfaaGreatDoorJnPam
import Derived.Stop.LaidErr
namespace Go.Proofs.YtilpencbbdpgfaaGreatDoor.kit
open Go.RowKit
theorem a_et : Tryz.prog.globalNamed "errors.errorType" = some 3 := by kernel_rfl
theorem a_rt : (Tryz.prog.cutTypes.find? (·.1 == "internal/reflectlite.rtype")).map (·.2) = some 300 := by kernel_rfl
theorem a_row : ((List.range 411).filter fun t => Tryz.prog.rowNamed t [101, 114, 114, 111, 114]) = [192] := by kernel_rfl
theorem a_size : Tryz.prog.types.size = 411 := by kernel_rfl
theorem err_of {W : World} (h : handlesMet Tryz.prog [("errors.errorType", .iface "internal/reflectlite.rtype" (.agg [.ptr (.lit (.string [101, 114, 114, 111, 114]))]))] W) : ctr.ErrT W := by
  obtain ⟨name, u, ty, e1, e2, e3, e4, e5⟩ := h _ (List.mem_singleton.2 rfl)
  have en : name = [101, 114, 114, 111, 114] := (Option.some.inj e1).symm
  subst en
  obtain rfl := Option.some.inj (a_rt.symm.trans e2)
  have hm : ty ∈ (List.range 411).filter fun t => Tryz.prog.rowNamed t [101, 114, 114, 111, 114] := List.mem_filter.2 ⟨List.mem_range.2 (by rw [← a_size]; exact e3), e4⟩
  rw [a_row] at hm
  obtain rfl := List.mem_singleton.1 hm
  have hh : typeHandle Tryz.prog 192 = .pointer (some ⟨10, 192, none⟩) := by kernel_rfl
  rw [hh] at e5
  unfold ctr.ErrT
  simpa using World.var?_cell a_et e5 0
end Go.Proofs.YtilpencbbdpgfaaGreatDoor.kit
namespace Go.Proofs.YtilpencbbdpgfaaGreatDoor.kit
open Go.RowKit
theorem gs_two {H : Type} {enc : TypeId × Value → H} {P : Program} {W : World} {sp : Nat → Bool} {a b : String} {gs : List (DataW H)} {q : List MemPlace} (h : DataW.TrodVars enc P W sp [a, b] gs q) : ∃ g1 g2, gs = [g1, g2] := by
  match gs, h with
  | [], h => exact h.elim
  | [g1], h =>
    obtain ⟨_, _, _, _, _, _, _, _, _, _, h5, _⟩ := h
    exact h5.elim
  | [g1, g2], _ => exact ⟨g1, g2, rfl⟩
  | g1 :: g2 :: g3 :: r, h =>
    obtain ⟨_, _, _, _, _, _, _, _, _, _, h5, _⟩ := h
    obtain ⟨_, _, _, _, _, _, _, _, _, _, h6, _⟩ := h5
    exact h6.elim
theorem star : "*" ++ "errors.errorString" = "*errors.errorString" := by decide
theorem rowErr (u : TypeId) (h : Tryz.prog.typeName? 3 u = some "*errors.errorString") : u = 380 :=
  typeName_ptr_named (nm := "errors.errorString") (by rw [star]; kernel_rfl) (by kernel_rfl) (by decide) u (by rw [star]; exact h)
theorem cellsErr : Tryz.prog.cellsOf 399 = 1 := by kernel_rfl
theorem cellsStr : Tryz.prog.cellsOf 9 = 1 := by kernel_rfl
theorem gErr : Tryz.prog.globalNamed "loop.example/g00638/impl.errNoTable" = some 0 := by kernel_rfl
theorem gErrType : (Tryz.prog.globals[0]?).map (·.type) = some 192 := by kernel_rfl
theorem sent_of {text : List UInt8} {r : List (String × DataW Unit)} {W : World} (h : laidMet Tryz.prog (("loop.example/g00638/impl.errNoTable", .iface "*errors.errorString" (.ptr (.agg [.lit (.string text)]))) :: r) W) : ∃ a, ctr.Sent W a := by
  obtain ⟨a, s, hv, _⟩ := laid_sentinel h gErr gErrType Tryz.underlying192 rowErr Tryz.underlying380 Tryz.underlying399 rfl rfl Tryz.underlying9 cellsErr cellsStr
  exact ⟨a, by unfold ctr.Sent; simpa using World.var?_cell gErr hv 0⟩
end Go.Proofs.YtilpencbbdpgfaaGreatDoor.kit
namespace Go.Proofs.YtilpencbbdpgfaaGreatDoor.kit
open Go.RowKit Go.WideShapes Go.Deep Go.ChangeShapes
theorem wf_bounds {z : Int} (h : (Lit.int .i64 z).wf = true) : -9223372036854775808 ≤ z ∧ z ≤ 9223372036854775807 := by
  have h' : (decide (IntKind.i64.min ≤ z) && decide (z ≤ IntKind.i64.max)) = true := h
  rw [show IntKind.i64.min = -9223372036854775808 from rfl, show IntKind.i64.max = 9223372036854775807 from rfl] at h'
  simpa using h'
end Go.Proofs.YtilpencbbdpgfaaGreatDoor.kit
