/- How many data a list of variables reads as. -/
import Derived.Test.YtchhdoipkimbgaaGreatDoorVarsKitM
namespace Go.Proofs.YtchhdoipkimbgaaGreatDoor.kit
theorem gs_len {H : Type} {enc : TypeId × Value → H} {P : Program} {W : World} {sp : Nat → Bool} : ∀ {ns : List String} {gs : List (DataW H)} {q : List MemPlace}, DataW.TrodVars enc P W sp ns gs q → gs.length = ns.length
  | [], [], _, _ => rfl
  | [], _ :: _, _, h => h.elim
  | _ :: _, [], _, h => h.elim
  | _ :: ns, _ :: gs, _, h => by
    obtain ⟨_, _, _, _, _, _, _, _, _, _, h5, _⟩ := h
    simp [gs_len h5]
theorem gs_four {H : Type} {enc : TypeId × Value → H} {P : Program} {W : World} {sp : Nat → Bool} {a b c d : String} {gs : List (DataW H)} {q : List MemPlace} (h : DataW.TrodVars enc P W sp [a, b, c, d] gs q) : ∃ g1 g2 g3 g4, gs = [g1, g2, g3, g4] := by
  have hl := gs_len h
  match gs, hl with
  | [g1, g2, g3, g4], _ => exact ⟨g1, g2, g3, g4, rfl⟩
end Go.Proofs.YtchhdoipkimbgaaGreatDoor.kit
