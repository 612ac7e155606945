/- What a law is told of a segment or a regime that comes in. -/
import Derived.Test.YtpclaceefapppaaGreatDoorJnZak
import Derived.Test.YtpclaceefapppaaGreatDoorJnZag
import Derived.Test.YtpclaceefapppaaGreatDoorJnZar
namespace Go.Proofs.YtpclaceefapppaaGreatDoor.ctr
open Go.RowKit
structure Rgm where
 name : ByteArray
 fr : Int
 to : Int
 segs : List Seg
 pats : List Pat
 rgns : List Rgn
 rule : Int
def GIn (w : World) (v : Value) (r : Rgm) : Prop := ∃ a1 n1 c1 a2 n2 c2 a3 n3 c3, v = .agg #[.string r.name, .int .i64 r.fr, .int .i64 r.to, .slice a1 n1 c1, .slice a2 n2 c2, .slice a3 n3 c3, .int .i64 r.rule] ∧ r.name.size ≤ maxLen ∧ IIn segK w a1 n1 c1 r.segs ∧ IIn patK w a2 n2 c2 r.pats ∧ RIn w a3 n3 c3 r.rgns
theorem GIn.below {w w' : World} {v : Value} {r : Rgm} (h : GIn w v r) (hb : Below w.heap.size w w') : GIn w' v r := by
 obtain ⟨a1, n1, c1, a2, n2, c2, a3, n3, c3, e, h0, h1, h2, h3⟩ := h
 exact ⟨a1, n1, c1, a2, n2, c2, a3, n3, c3, e, h0, h1.below hb, h2.below hb, h3.below hb⟩
def GRow (w : World) (v : Value) (r : Rgm) : Prop := ∃ v1 v2 v3, v = .agg #[.string r.name, .int .i64 r.fr, .int .i64 r.to, v1, v2, v3, .int .i64 r.rule] ∧ r.name.size ≤ maxLen ∧ IRow segK w v1 r.segs ∧ IRow patK w v2 r.pats ∧ RRow w v3 r.rgns
theorem GRow.below {w w' : World} {v : Value} {r : Rgm} (h : GRow w v r) (hb : Below w.heap.size w w') : GRow w' v r := by
 obtain ⟨v1, v2, v3, e, h0, h1, h2, h3⟩ := h
 exact ⟨v1, v2, v3, e, h0, h1.below hb, h2.below hb, h3.below hb⟩
theorem GRow.later {W : World} {v : Value} {r : Rgm} (h : GRow W v r) (x : Later W) : GRow x.w v r := h.below x.below
def GNew (w w' : World) (v : Value) (r : Rgm) : Prop := ∃ v1 v2 v3, v = .agg #[.string r.name, .int .i64 r.fr, .int .i64 r.to, v1, v2, v3, .int .i64 r.rule] ∧ INew segK w w' v1 r.segs ∧ INew patK w w' v2 r.pats ∧ RNew w w' v3 r.rgns
def GOk (r : Rgm) : Prop := r.name.size ≤ 1048576 ∧ r.segs.length ≤ 1048576 ∧ r.pats.length ≤ 1048576 ∧ SizeOk r.rgns
theorem GNew.row {w w' : World} {v : Value} {r : Rgm} (h : GNew w w' v r) (ho : GOk r) : GRow w' v r := by
 obtain ⟨v1, v2, v3, e, h1, h2, h3⟩ := h
 obtain ⟨o1, o2, o3, o4⟩ := ho
 exact ⟨v1, v2, v3, e, by unfold maxLen; omega, h1.row (by unfold maxLen; omega), h2.row (by unfold maxLen; omega), h3.row (len_ok o4) o4.names⟩
theorem GNew.below {w w' w'' : World} {v : Value} {r : Rgm} (h : GNew w w' v r) (hb : Below w'.heap.size w' w'') : GNew w w'' v r := by
 obtain ⟨v1, v2, v3, e, h1, h2, h3⟩ := h
 exact ⟨v1, v2, v3, e, h1.below hb, h2.below hb, h3.below hb⟩
end Go.Proofs.YtpclaceefapppaaGreatDoor.ctr
namespace Go.Proofs.YtpclaceefapppaaGreatDoor.kit
open Go.RowKit Go.WideShapes Go.Deep Go.ChangeShapes
theorem slice_cell {H : Type} {enc : TypeId × Value → H} {P : Program} {w : World} {base : Nat} {sp : Nat → Bool} {held : Bool} {t e : TypeId} {n : Nat} {c : Value} {x : DataW H × List MemPlace} (ht : P.underlying t = some (.slice e)) (h : DataW.trod enc P w base sp held n t [c] = some x) : ∃ a len cap, c = .slice a len cap ∧ DataW.Trod enc P w base sp held t (.slice a len cap) x.1 x.2 := by
 rcases open_slice ht h with ⟨h0, _⟩ | ⟨a', len', cap', m, k, D, Pl, e', _⟩
 · simp at h0
   subst h0
   exact ⟨none, 0, 0, rfl, n, by simpa [Value.cells] using h⟩
 · simp at e'
   subst e'
   exact ⟨some a', len', cap', rfl, n, by simpa [Value.cells] using h⟩
theorem seven {α : Type} {cs : Array α} (h : cs.size = 7) : ∃ a b c d e f g, cs = #[a, b, c, d, e, f, g] := by
 obtain ⟨l⟩ := cs
 match l, h with
 | [a, b, c, d, e, f, g], _ => exact ⟨a, b, c, d, e, f, g, rfl⟩
theorem open_rgm {H : Type} {enc : TypeId × Value → H} {P : Program} {w : World} {base : Nat} {sp : Nat → Bool} {held : Bool} {r : Reach} {b0 : Nat} {t : TypeId} {f0 f1 f2 f3 f4 f5 f6 : Field} {v : Value} {dt : DataW H} {p : List MemPlace} {e3 e4 e5 : TypeId} {s3 s4 : Array Field} {q0 q1 q2 : Field}
    (hs : P.underlying t = some (.struct #[f0, f1, f2, f3, f4, f5, f6])) (hone : oneCellFields P #[f0, f1, f2, f3, f4, f5, f6] = true) (hC : P.cellsOf t = 7) (u0 : P.underlying f0.type = some .string) (u1 : P.underlying f1.type = some (.int .i64)) (u2 : P.underlying f2.type = some (.int .i64))
    (u3 : P.underlying f3.type = some (.slice e3)) (u4 : P.underlying f4.type = some (.slice e4)) (u5 : P.underlying f5.type = some (.slice e5)) (u6 : P.underlying f6.type = some (.int .i64))
    (h3 : P.underlying e3 = some (.struct s3)) (c3 : P.cellsOf e3 = 5) (z3 : s3.size = 5) (g3 : ∀ (j : Nat) (f : Field), s3[j]? = some f → f.offset = j ∧ P.cellsOf f.type = 1 ∧ P.underlying f.type = some (.int .i64))
    (h4 : P.underlying e4 = some (.struct s4)) (c4 : P.cellsOf e4 = 3) (z4 : s4.size = 3) (g4 : ∀ (j : Nat) (f : Field), s4[j]? = some f → f.offset = j ∧ P.cellsOf f.type = 1 ∧ P.underlying f.type = some (.int .i64))
    (h5 : P.underlying e5 = some (.struct #[q0, q1, q2])) (c5 : P.cellsOf e5 = 3) (o0 : q0.offset = 0) (o1 : q1.offset = 1) (o2 : q2.offset = 2) (d0 : P.cellsOf q0.type = 1) (d1 : P.cellsOf q1.type = 1) (d2 : P.cellsOf q2.type = 1)
    (v0 : P.underlying q0.type = some .string) (v1 : P.underlying q1.type = some (.int .i64)) (v2 : P.underlying q2.type = some (.int .i64))
    (hv : Value.okWide P w r b0 t v) (h : DataW.Trod enc P w base sp held t v dt p) : ∃ x : ctr.Rgm, ctr.GIn w v x ∧ (Lit.int .i64 x.fr).wf = true ∧ (Lit.int .i64 x.to).wf = true := by
  obtain ⟨cs, rfl, hsz⟩ := okWide_struct hs hv
  obtain ⟨a, b, c, d, e, f, g, rfl⟩ := seven (hsz.trans hC)
  obtain ⟨fuel, hf⟩ := h
  obtain ⟨xs, n, _, _, _, hlen, hg⟩ := DataW.trod_struct hs hf
  have k := hone_of hone
  obtain ⟨p0, k0⟩ := k 0 f0 rfl
  obtain ⟨p1, k1⟩ := k 1 f1 rfl
  obtain ⟨p2, k2⟩ := k 2 f2 rfl
  obtain ⟨p3, k3⟩ := k 3 f3 rfl
  obtain ⟨p4, k4⟩ := k 4 f4 rfl
  obtain ⟨p5, k5⟩ := k 5 f5 rfl
  obtain ⟨p6, k6⟩ := k 6 f6 rfl
  match xs, hlen with
  | [y0, y1, y2, y3, y4, y5, y6], _ =>
   have m0 := hg 0 f0 rfl
   have m1 := hg 1 f1 rfl
   have m2 := hg 2 f2 rfl
   have m3 := hg 3 f3 rfl
   have m4 := hg 4 f4 rfl
   have m5 := hg 5 f5 rfl
   have m6 := hg 6 f6 rfl
   simp only [Value.cells, p0, k0] at m0
   simp only [Value.cells, p1, k1] at m1
   simp only [Value.cells, p2, k2] at m2
   simp only [Value.cells, p3, k3] at m3
   simp only [Value.cells, p4, k4] at m4
   simp only [Value.cells, p5, k5] at m5
   simp only [Value.cells, p6, k6] at m6
   obtain ⟨s, e0, _, hsm⟩ := DataW.trod_string u0 (by simpa using m0)
   obtain ⟨i1, e1, _, w1⟩ := DataW.trod_int u1 (by simpa using m1)
   obtain ⟨i2, e2, _, w2⟩ := DataW.trod_int u2 (by simpa using m2)
   obtain ⟨i6, e6, _, _⟩ := DataW.trod_int u6 (by simpa using m6)
   obtain ⟨a3, l3, n3, rfl, t3⟩ := slice_cell u3 (by simpa using m3)
   obtain ⟨a4, l4, n4, rfl, t4⟩ := slice_cell u4 (by simpa using m4)
   obtain ⟨a5, l5, n5, rfl, t5⟩ := slice_cell u5 (by simpa using m5)
   obtain ⟨L3, q3⟩ := open_irow ctr.segK u3 h3 c3 z3 g3 t3
   obtain ⟨L4, q4⟩ := open_irow ctr.patK u4 h4 c4 z4 g4 t4
   obtain ⟨L5, q5⟩ := open_rgns u5 h5 c5 o0 o1 o2 d0 d1 d2 v0 v1 v2 t5
   simp only [List.cons.injEq, and_true] at e0 e1 e2 e6
   subst e0 e1 e2 e6
   exact ⟨⟨s, i1, i2, L3, L4, L5, i6⟩, ⟨a3, l3, n3, a4, l4, n4, a5, l5, n5, rfl, hsm, q3, q4, q5⟩, w1, w2⟩
end Go.Proofs.YtpclaceefapppaaGreatDoor.kit
