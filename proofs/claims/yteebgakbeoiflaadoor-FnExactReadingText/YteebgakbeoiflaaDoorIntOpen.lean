/- What a law is told of a struct of ints that comes in by value. -/
import Derived.Test.YteebgakbeoiflaaDoorIntRow
namespace Go.Proofs.YteebgakbeoiflaaDoor.kit
open Go.RowKit Go.WideShapes Go.Deep Go.ChangeShapes

/-- A struct of ints that comes in by value is written out. -/
theorem open_istruct {H : Type} {enc : TypeId × Value → H} {P : Program} {w : World} {base : Nat} {sp : Nat → Bool} {held : Bool} {r : Reach} {b0 : Nat} {t : TypeId} {fs : Array Field} {v : Value} {dt : DataW H} {p : List MemPlace} {α : Type} (K : ctr.IK α)
    (hs : P.underlying t = some (.struct fs)) (hC : P.cellsOf t = K.m) (hsz : fs.size = K.m)
    (hf0 : ∀ (j : Nat) (f : Field), fs[j]? = some f → f.offset = j ∧ P.cellsOf f.type = 1 ∧ P.underlying f.type = some (.int .i64))
    (hv : Value.okWide P w r b0 t v) (h : DataW.Trod enc P w base sp held t v dt p) : ∃ a : α, v = .agg (ctr.icell K a).toArray ∧ ∀ z ∈ K.iv a, (Lit.int .i64 z).wf = true := by
  obtain ⟨cs, rfl, hcs⟩ := okWide_struct hs hv
  obtain ⟨fuel, hf⟩ := h
  obtain ⟨xs, n, _, _, _, hlen, hg⟩ := DataW.trod_struct hs hf
  rw [hC] at hcs
  have cell : ∀ j, j < K.m → ∃ z : Int, cs[j]? = some (.int .i64 z) ∧ (Lit.int .i64 z).wf = true := by
    intro j hj
    obtain ⟨f, hfe⟩ : ∃ f, fs[j]? = some f := ⟨fs[j]'(by omega), by simp [hsz, hj]⟩
    obtain ⟨o, c, u⟩ := hf0 j f hfe
    have g := hg j f (by simpa using hfe)
    simp only [Value.cells] at g
    rw [o, c] at g
    have hjl : j < cs.toList.length := by simp; omega
    have e1 : (cs.toList.drop j).take 1 = [cs.toList[j]] := by rw [List.drop_eq_getElem_cons hjl]; rfl
    have hxj : j < xs.length := by have := hlen; omega
    rw [e1, List.getElem?_eq_getElem hxj] at g
    obtain ⟨z, q, _, hz⟩ := DataW.trod_int u g
    have hjc : j < cs.size := by omega
    refine ⟨z, ?_, hz⟩
    rw [Array.getElem?_eq_getElem hjc]
    simpa using q
  obtain ⟨Z, hZ⟩ : ∃ Z : Nat → Int, ∀ j, j < K.m → cs[j]? = some (.int .i64 (Z j)) ∧ (Lit.int .i64 (Z j)).wf = true := by
    classical
    refine ⟨fun j => if h : j < K.m then (cell j h).choose else 0, fun j hj => ?_⟩
    simp only [dif_pos hj]
    exact (cell j hj).choose_spec
  refine ⟨K.ofI ((List.range K.m).map Z), ?_, fun z hz => ?_⟩
  · congr 1
    apply Array.ext_getElem?
    intro j
    rw [ctr.icell, K.back _ (by simp)]
    by_cases hj : j < K.m
    · rw [(hZ j hj).1]
      simp [hj]
    · rw [Array.getElem?_eq_none (by omega), Array.getElem?_eq_none (by simp; omega)]
  · rw [K.back _ (by simp)] at hz
    obtain ⟨j, hj, rfl⟩ := List.mem_map.1 hz
    exact (hZ j (by simpa using hj)).2
end Go.Proofs.YteebgakbeoiflaaDoor.kit
