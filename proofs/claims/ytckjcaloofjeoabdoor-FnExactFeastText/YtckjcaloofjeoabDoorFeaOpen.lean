/- What a law is told of a feast, and of a bool, that comes in; and the contracts of the laws' own szFeast and toFeast. -/
import Derived.Test.YtckjcaloofjeoabDoorFeaList
import Derived.Test.YtckjcaloofjeoabDoorVarsKit
import Derived.Lib.SmallJoins
namespace Go.Proofs.YtckjcaloofjeoabDoor.kit
open Go.RowKit Go.WideShapes Go.Deep

theorem five {α : Type} {cs : Array α} (h : cs.size = 5) : ∃ a b c d e, cs = #[a, b, c, d, e] := by
  obtain ⟨l⟩ := cs
  match l, h with
  | [a, b, c, d, e], _ => exact ⟨a, b, c, d, e, rfl⟩
/-- A struct of a text, a bool and three ints that comes in by value is written out. -/
theorem open_fea {H : Type} {enc : TypeId × Value → H} {P : Program} {w : World} {base : Nat} {sp : Nat → Bool} {held : Bool} {r : Reach} {b0 : Nat} {t : TypeId} {f0 f1 f2 f3 f4 : Field} {v : Value} {dt : DataW H} {p : List MemPlace}
    (hs : P.underlying t = some (.struct #[f0, f1, f2, f3, f4])) (hone : oneCellFields P #[f0, f1, f2, f3, f4] = true) (hC : P.cellsOf t = 5) (u0 : P.underlying f0.type = some .string) (u1 : P.underlying f1.type = some .bool) (u2 : P.underlying f2.type = some (.int .i64)) (u3 : P.underlying f3.type = some (.int .i64)) (u4 : P.underlying f4.type = some (.int .i64))
    (hv : Value.okWide P w r b0 t v) (h : DataW.Trod enc P w base sp held t v dt p) :
    ∃ (s : ByteArray) (mv : Bool) (o m d : Int), v = .agg #[.string s, .bool mv, .int .i64 o, .int .i64 m, .int .i64 d] ∧ s.size ≤ maxLen := by
  obtain ⟨cs, rfl, hsz⟩ := okWide_struct hs hv
  obtain ⟨a, b, c, d, e, rfl⟩ := five (hsz.trans hC)
  obtain ⟨fuel, hf⟩ := h
  obtain ⟨xs, n, _, _, _, hlen, hg⟩ := DataW.trod_struct hs hf
  have k := hone_of hone
  obtain ⟨o0, k0⟩ := k 0 f0 rfl
  obtain ⟨o1, k1⟩ := k 1 f1 rfl
  obtain ⟨o2, k2⟩ := k 2 f2 rfl
  obtain ⟨o3, k3⟩ := k 3 f3 rfl
  obtain ⟨o4, k4⟩ := k 4 f4 rfl
  match xs, hlen with
  | [y0, y1, y2, y3, y4], _ =>
    have g0 := hg 0 f0 rfl
    have g1 := hg 1 f1 rfl
    have g2 := hg 2 f2 rfl
    have g3 := hg 3 f3 rfl
    have g4 := hg 4 f4 rfl
    simp only [Value.cells, o0, k0] at g0
    simp only [Value.cells, o1, k1] at g1
    simp only [Value.cells, o2, k2] at g2
    simp only [Value.cells, o3, k3] at g3
    simp only [Value.cells, o4, k4] at g4
    obtain ⟨s, e0, _, hsm⟩ := DataW.trod_string u0 (by simpa using g0)
    obtain ⟨mv, e1, _⟩ := DataW.trod_bool u1 (by simpa using g1)
    obtain ⟨z2, e2, _, _⟩ := DataW.trod_int u2 (by simpa using g2)
    obtain ⟨z3, e3, _, _⟩ := DataW.trod_int u3 (by simpa using g3)
    obtain ⟨z4, e4, _, _⟩ := DataW.trod_int u4 (by simpa using g4)
    simp only [List.cons.injEq, and_true] at e0 e1 e2 e3 e4
    exact ⟨s, mv, z2, z3, z4, by rw [e0, e1, e2, e3, e4], hsm⟩
theorem open_bool {H : Type} {enc : TypeId × Value → H} {P : Program} {w : World} {base : Nat} {sp : Nat → Bool} {held : Bool} {r : Reach} {b0 : Nat} {t : TypeId} {v : Value} {dt : DataW H} {p : List MemPlace}
    (hs : P.underlying t = some .bool) (hv : Value.okWide P w r b0 t v) (h : DataW.Trod enc P w base sp held t v dt p) : ∃ b : Bool, v = .bool b ∧ dt = .lit (.bool b) ∧ p = [] := by
  obtain ⟨b, rfl⟩ : ∃ b, v = .bool b := okWide_bool hs hv
  obtain ⟨fuel, hf⟩ := h
  obtain ⟨b', e, hx⟩ := DataW.trod_bool hs hf
  simp only [Prod.mk.injEq] at hx
  have hb : b = b' := by simpa [Value.cells] using e
  subst hb
  exact ⟨b, rfl, hx.1, hx.2⟩
end Go.Proofs.YtckjcaloofjeoabDoor.kit
namespace Go.Proofs.YtckjcaloofjeoabDoor.ctr
open Go.RowKit

def szOf (n : Nat) : Int := if (1048576 : Int) < n then -1 else 1048576 - n
theorem szFea (s : ByteArray) (mv : Bool) (o m d : Int) (w : World) (hs : s.size ≤ maxLen) : Calls Tryd.prog 16 #[.agg #[.string s, .bool mv, .int .i64 o, .int .i64 m, .int .i64 d], .int .i64 1048576] w fun e w' => e = .returned (.int .i64 (szOf s.size)) ∧ Below w.heap.size w w' := by
  unfold maxLen at hs
  unfold szOf
  by_cases h : (1048576 : Int) < s.size
  · rw [if_pos h]
    go_enter Tryd.func16, Tryd.ntmps16
    go_wp2
    go_ret
    exact ⟨rfl, (Below.refl _ _).alloc (Nat.le_refl _) _⟩
  · rw [if_neg h]
    go_enter Tryd.func16, Tryd.ntmps16
    go_wp2
    go_ret
    exact ⟨rfl, (Below.refl _ _).alloc (Nat.le_refl _) _⟩
theorem toFea (s : ByteArray) (mv : Bool) (o m d : Int) (w : World) : Calls Tryd.prog 18 #[.agg #[.string s, .bool mv, .int .i64 o, .int .i64 m, .int .i64 d]] w fun e w' => e = .returned (.agg #[.string s, .bool mv, .int .i64 o, .int .i64 m, .int .i64 d]) ∧ Below w.heap.size w w' := by
  go_enter Tryd.func18, Tryd.ntmps18
  go_wp2
  go_returns
  refine ⟨rfl, ?_⟩
  go_grown
end Go.Proofs.YtckjcaloofjeoabDoor.ctr
