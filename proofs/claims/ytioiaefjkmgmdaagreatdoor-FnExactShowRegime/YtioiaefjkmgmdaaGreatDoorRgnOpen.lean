/- What a law is told of a list of reigns that comes in. -/
import Derived.Test.YtioiaefjkmgmdaaGreatDoorRgnList
import Derived.Deep.Slices
import Derived.Lib.SmallJoins
namespace Go.Proofs.YtioiaefjkmgmdaaGreatDoor.ctr
open Go.RowKit

/-- A slice of reigns that came in: it is nil, or its cells are these reigns'. -/
def RIn (w : World) (a : Option Addr) (len cap : Nat) (l : List Rgn) : Prop :=
  l.length = len ∧ len ≤ cap ∧ cap ≤ maxLen ∧ (∀ k, k < len → (rgA l k).name.size ≤ maxLen) ∧
  ((a = none ∧ len = 0) ∨ ∃ x, a = some x ∧ ∀ k, k < len → w.cell? (x.add (k * 3)) = some (.string (rgA l k).name) ∧ w.cell? (x.add (k * 3 + 1)) = some (.int .i64 (rgA l k).fr) ∧ w.cell? (x.add (k * 3 + 2)) = some (.int .i64 (rgA l k).to))
end Go.Proofs.YtioiaefjkmgmdaaGreatDoor.ctr
namespace Go.Proofs.YtioiaefjkmgmdaaGreatDoor.kit
open Go.RowKit Go.WideShapes Go.Deep Go.ChangeShapes

theorem open_rgns {H : Type} {enc : TypeId × Value → H} {P : Program} {w : World} {base : Nat} {spare : Nat → Bool} {held : Bool} {t e : TypeId} {f0 f1 f2 : Field} {a : Option Addr} {len cap : Nat} {x : DataW H} {p : List MemPlace}
    (ht : P.underlying t = some (.slice e)) (he : P.underlying e = some (.struct #[f0, f1, f2])) (ce : P.cellsOf e = 3) (o0 : f0.offset = 0) (o1 : f1.offset = 1) (o2 : f2.offset = 2) (c0 : P.cellsOf f0.type = 1) (c1 : P.cellsOf f1.type = 1) (c2 : P.cellsOf f2.type = 1)
    (u0 : P.underlying f0.type = some .string) (u1 : P.underlying f1.type = some (.int .i64)) (u2 : P.underlying f2.type = some (.int .i64))
    (h : DataW.Trod enc P w base spare held t (.slice a len cap) x p) : ∃ l : List ctr.Rgn, ctr.RIn w a len cap l := by
  obtain ⟨fuel, h⟩ := h
  simp only [Value.cells] at h
  rcases open_slice ht h with ⟨h0, _⟩ | ⟨a', len', cap', m, n, D, Pl, e', hb, hl, hm, hmm, hxp, hx⟩
  · simp at h0
    obtain ⟨rfl, rfl, rfl⟩ := h0
    exact ⟨[], rfl, Nat.le_refl _, by unfold maxLen; omega, fun k hk => by omega, .inl ⟨rfl, rfl⟩⟩
  · simp at e'
    obtain ⟨rfl, rfl, rfl⟩ := e'
    have hlm : len ≤ m := by rw [hmm]; split <;> omega
    have each : ∀ i, i < len → ∃ r : ctr.Rgn, r.name.size ≤ maxLen ∧ w.cell? (a'.add (i * 3)) = some (.string r.name) ∧ w.cell? (a'.add (i * 3 + 1)) = some (.int .i64 r.fr) ∧ w.cell? (a'.add (i * 3 + 2)) = some (.int .i64 r.to) := by
      intro i hi
      obtain ⟨cs', h1, h2⟩ := hx i (by omega)
      rw [ce] at h1
      obtain ⟨_, hlen, hcell⟩ := World.cells?_some h1
      obtain ⟨xs, k, hk, hxy, _, hxl, hf⟩ := DataW.trod_struct he h2
      match xs, hxl, cs', hlen with
      | [y0, y1, y2], _, [v0, v1, v2], _ =>
        have g0 := hf 0 f0 rfl
        have g1 := hf 1 f1 rfl
        have g2 := hf 2 f2 rfl
        simp [o0, o1, o2, c0, c1, c2] at g0 g1 g2
        have e0 := hcell 0 (by omega)
        have e1 := hcell 1 (by omega)
        have e2 := hcell 2 (by omega)
        rw [add_add] at e0 e1 e2
        obtain ⟨s, q0, _, hsm⟩ := DataW.trod_string u0 g0
        obtain ⟨z1, q1, _, _⟩ := DataW.trod_int u1 g1
        obtain ⟨z2, q2, _, _⟩ := DataW.trod_int u2 g2
        simp only [List.cons.injEq, and_true] at q0 q1 q2
        subst q0 q1 q2
        exact ⟨⟨s, z1, z2⟩, hsm, by simpa using e0, by simpa using e1, by simpa using e2⟩
    obtain ⟨R, hR⟩ : ∃ R : Nat → ctr.Rgn, ∀ i, i < len → (R i).name.size ≤ maxLen ∧ w.cell? (a'.add (i * 3)) = some (.string (R i).name) ∧ w.cell? (a'.add (i * 3 + 1)) = some (.int .i64 (R i).fr) ∧ w.cell? (a'.add (i * 3 + 2)) = some (.int .i64 (R i).to) := by
      classical
      refine ⟨fun i => if h : i < len then (each i h).choose else ctr.r0, fun i hi => ?_⟩
      simp only [dif_pos hi]
      exact (each i hi).choose_spec
    have hat : ∀ k, k < len → ctr.rgA ((List.range len).map R) k = R k := fun k hk => by simp [ctr.rgA, List.getD, hk]
    refine ⟨(List.range len).map R, by simp, hl, hm, fun k hk => by rw [hat k hk]; exact (hR k hk).1, .inr ⟨a', rfl, fun k hk => by rw [hat k hk]; exact (hR k hk).2⟩⟩
end Go.Proofs.YtioiaefjkmgmdaaGreatDoor.kit
namespace Go.Proofs.YtioiaefjkmgmdaaGreatDoor.kit
open Go.RowKit Go.WideShapes Go.Deep

theorem three {α : Type} {cs : Array α} (h : cs.size = 3) : ∃ a b c, cs = #[a, b, c] := by
  obtain ⟨l⟩ := cs
  match l, h with
  | [a, b, c], _ => exact ⟨a, b, c, rfl⟩
/-- A struct of a text and two ints that comes in by value is written out. -/
theorem open_rgn {H : Type} {enc : TypeId × Value → H} {P : Program} {w : World} {base : Nat} {sp : Nat → Bool} {held : Bool} {r : Reach} {b0 : Nat} {t : TypeId} {f0 f1 f2 : Field} {v : Value} {dt : DataW H} {p : List MemPlace}
    (hs : P.underlying t = some (.struct #[f0, f1, f2])) (hone : oneCellFields P #[f0, f1, f2] = true) (hC : P.cellsOf t = 3) (u0 : P.underlying f0.type = some .string) (u1 : P.underlying f1.type = some (.int .i64)) (u2 : P.underlying f2.type = some (.int .i64))
    (hv : Value.okWide P w r b0 t v) (h : DataW.Trod enc P w base sp held t v dt p) :
    ∃ (s : ByteArray) (st ad : Int), v = .agg #[.string s, .int .i64 st, .int .i64 ad] ∧ s.size ≤ maxLen ∧ (Lit.int .i64 st).wf = true ∧ (Lit.int .i64 ad).wf = true := by
  obtain ⟨cs, rfl, hsz⟩ := okWide_struct hs hv
  obtain ⟨a, b, c, rfl⟩ := three (hsz.trans hC)
  obtain ⟨fuel, hf⟩ := h
  obtain ⟨xs, n, _, _, _, hlen, hg⟩ := DataW.trod_struct hs hf
  have k := hone_of hone
  obtain ⟨o0, k0⟩ := k 0 f0 rfl
  obtain ⟨o1, k1⟩ := k 1 f1 rfl
  obtain ⟨o2, k2⟩ := k 2 f2 rfl
  match xs, hlen with
  | [y0, y1, y2], _ =>
    have g0 := hg 0 f0 rfl
    have g1 := hg 1 f1 rfl
    have g2 := hg 2 f2 rfl
    simp only [Value.cells, o0, k0] at g0
    simp only [Value.cells, o1, k1] at g1
    simp only [Value.cells, o2, k2] at g2
    obtain ⟨s, e0, _, hsm⟩ := DataW.trod_string u0 (by simpa using g0)
    obtain ⟨z1, e1, _, h1⟩ := DataW.trod_int u1 (by simpa using g1)
    obtain ⟨z2, e2, _, h2⟩ := DataW.trod_int u2 (by simpa using g2)
    simp only [List.cons.injEq, and_true] at e0 e1 e2
    exact ⟨s, z1, z2, by rw [e0, e1, e2], hsm, h1, h2⟩
end Go.Proofs.YtioiaefjkmgmdaaGreatDoor.kit
