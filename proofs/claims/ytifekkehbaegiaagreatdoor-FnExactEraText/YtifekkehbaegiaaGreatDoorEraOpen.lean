/- What a law is told of an era that comes in. -/
import Derived.Test.YtifekkehbaegiaaGreatDoorEraList
import Derived.Lib.SmallJoins
namespace Go.Proofs.YtifekkehbaegiaaGreatDoor.kit
open Go.RowKit Go.WideShapes Go.Deep

theorem four {α : Type} {cs : Array α} (h : cs.size = 4) : ∃ a b c d, cs = #[a, b, c, d] := by
  obtain ⟨l⟩ := cs
  match l, h with
  | [a, b, c, d], _ => exact ⟨a, b, c, d, rfl⟩
/-- A struct of a text and three ints that comes in by value is written out. -/
theorem open_era {H : Type} {enc : TypeId × Value → H} {P : Program} {w : World} {base : Nat} {sp : Nat → Bool} {held : Bool} {r : Reach} {b0 : Nat} {t : TypeId} {f0 f1 f2 f3 : Field} {v : Value} {dt : DataW H} {p : List MemPlace}
    (hs : P.underlying t = some (.struct #[f0, f1, f2, f3])) (hone : oneCellFields P #[f0, f1, f2, f3] = true) (hC : P.cellsOf t = 4) (u0 : P.underlying f0.type = some .string) (u1 : P.underlying f1.type = some (.int .i64)) (u2 : P.underlying f2.type = some (.int .i64)) (u3 : P.underlying f3.type = some (.int .i64))
    (hv : Value.okWide P w r b0 t v) (h : DataW.Trod enc P w base sp held t v dt p) :
    ∃ (s : ByteArray) (st ad cy : Int), v = .agg #[.string s, .int .i64 st, .int .i64 ad, .int .i64 cy] ∧ s.size ≤ maxLen ∧ (Lit.int .i64 st).wf = true ∧ (Lit.int .i64 ad).wf = true ∧ (Lit.int .i64 cy).wf = true := by
  obtain ⟨cs, rfl, hsz⟩ := okWide_struct hs hv
  obtain ⟨a, b, c, d, rfl⟩ := four (hsz.trans hC)
  obtain ⟨fuel, hf⟩ := h
  obtain ⟨xs, n, _, _, _, hlen, hg⟩ := DataW.trod_struct hs hf
  have k := hone_of hone
  obtain ⟨o0, k0⟩ := k 0 f0 rfl
  obtain ⟨o1, k1⟩ := k 1 f1 rfl
  obtain ⟨o2, k2⟩ := k 2 f2 rfl
  obtain ⟨o3, k3⟩ := k 3 f3 rfl
  match xs, hlen with
  | [y0, y1, y2, y3], _ =>
    have g0 := hg 0 f0 rfl
    have g1 := hg 1 f1 rfl
    have g2 := hg 2 f2 rfl
    have g3 := hg 3 f3 rfl
    simp only [Value.cells, o0, k0] at g0
    simp only [Value.cells, o1, k1] at g1
    simp only [Value.cells, o2, k2] at g2
    simp only [Value.cells, o3, k3] at g3
    obtain ⟨s, e0, _, hsm⟩ := DataW.trod_string u0 (by simpa using g0)
    obtain ⟨z1, e1, _, h1⟩ := DataW.trod_int u1 (by simpa using g1)
    obtain ⟨z2, e2, _, h2⟩ := DataW.trod_int u2 (by simpa using g2)
    obtain ⟨z3, e3, _, h3⟩ := DataW.trod_int u3 (by simpa using g3)
    simp only [List.cons.injEq, and_true] at e0 e1 e2 e3
    exact ⟨s, z1, z2, z3, by rw [e0, e1, e2, e3], hsm, h1, h2, h3⟩
end Go.Proofs.YtifekkehbaegiaaGreatDoor.kit
namespace Go.Proofs.YtifekkehbaegiaaGreatDoor.ctr
open Go.RowKit

def szE (n : Nat) : Int := if (1048576 : Int) < n then -1 else 1048576 - n
/-- A world with an era's block at its end, and what comes behind it. -/
theorem era_box (w : World) (s : ByteArray) (st ad cy : Int) (t : TypeId) : ∃ W0, W0 = w.alloc (.cells #[.string s, .int .i64 st, .int .i64 ad, .int .i64 cy] t) ∧ (∀ x : Later W0, x.w.cell? ⟨w.heap.size, 0, none⟩ = some (.string s)) ∧ (∀ x : Later W0, x.w.cell? ⟨w.heap.size, 1, none⟩ = some (.int .i64 st)) ∧ (∀ x : Later W0, x.w.cell? ⟨w.heap.size, 2, none⟩ = some (.int .i64 ad)) ∧ (∀ x : Later W0, x.w.cell? ⟨w.heap.size, 3, none⟩ = some (.int .i64 cy)) ∧ ∀ x : Later W0, Below w.heap.size w x.w :=
  ⟨_, rfl, Later.new rfl 0 rfl, Later.new rfl 1 rfl, Later.new rfl 2 rfl, Later.new rfl 3 rfl, fun x => below_alloc x.below⟩
end Go.Proofs.YtifekkehbaegiaaGreatDoor.ctr
