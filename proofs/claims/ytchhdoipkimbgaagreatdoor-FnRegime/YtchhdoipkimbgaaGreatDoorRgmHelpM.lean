/- Contracts of the laws' own helpers over regimes: how long all is (szRegime), copies (toRegime), two alike are told alike (eqRegime). -/
import Derived.Test.YtchhdoipkimbgaaGreatDoorRgmOpenM
namespace Go.Proofs.YtchhdoipkimbgaaGreatDoor.ctr
open Go.RowKit

/-- A world with a block of seven cells at its end, and what comes behind it. -/
theorem seven_box (w : World) (v0 v1 v2 v3 v4 v5 v6 : Value) (t : TypeId) : ∃ W0, W0 = w.alloc (.cells #[v0, v1, v2, v3, v4, v5, v6] t) ∧ (∀ x : Later W0, x.w.cell? ⟨w.heap.size, 0, none⟩ = some v0) ∧ (∀ x : Later W0, x.w.cell? ⟨w.heap.size, 1, none⟩ = some v1) ∧ (∀ x : Later W0, x.w.cell? ⟨w.heap.size, 2, none⟩ = some v2) ∧ (∀ x : Later W0, x.w.cell? ⟨w.heap.size, 3, none⟩ = some v3) ∧ (∀ x : Later W0, x.w.cell? ⟨w.heap.size, 4, none⟩ = some v4) ∧ (∀ x : Later W0, x.w.cell? ⟨w.heap.size, 5, none⟩ = some v5) ∧ (∀ x : Later W0, x.w.cell? ⟨w.heap.size, 6, none⟩ = some v6) ∧ ∀ x : Later W0, Below w.heap.size w x.w :=
  ⟨_, rfl, Later.new rfl 0 rfl, Later.new rfl 1 rfl, Later.new rfl 2 rfl, Later.new rfl 3 rfl, Later.new rfl 4 rfl, Later.new rfl 5 rfl, Later.new rfl 6 rfl, fun x => below_alloc x.below⟩

def gmZero : Array Value := #[.string ⟨#[]⟩, .int .i64 0, .int .i64 0, .slice none 0 0, .slice none 0 0, .slice none 0 0, .int .i64 0]
theorem INew.store {α : Type} {K : IK α} {w w' : World} {v : Value} {l : List α} (h : INew K w w' v l) {b i : Nat} (x : Value) (hb : b < w.heap.size) : INew K w (w'.setCell ⟨b, i, none⟩ x) v l := by
  obtain ⟨g, t, e1, e2, e3⟩ := h
  exact ⟨g, t, e1, e2, e3.other (by omega)⟩
theorem INew.mono {α : Type} {K : IK α} {w w0 w' : World} {v : Value} {l : List α} (h : INew K w w' v l) (hb : w0.heap.size ≤ w.heap.size) : INew K w0 w' v l := by
  obtain ⟨g, t, e1, e2, e3⟩ := h
  exact ⟨g, t, e1, Nat.le_trans hb e2, e3⟩
theorem RNew.store {w w' : World} {v : Value} {l : List Rgn} (h : RNew w w' v l) {b i : Nat} (x : Value) (hb : b < w.heap.size) : RNew w (w'.setCell ⟨b, i, none⟩ x) v l := by
  obtain ⟨g, t, e1, e2, e3⟩ := h
  exact ⟨g, t, e1, e2, e3.other (by omega)⟩
theorem RNew.mono {w w0 w' : World} {v : Value} {l : List Rgn} (h : RNew w w' v l) (hb : w0.heap.size ≤ w.heap.size) : RNew w0 w' v l := by
  obtain ⟨g, t, e1, e2, e3⟩ := h
  exact ⟨g, t, e1, Nat.le_trans hb e2, e3⟩

set_option maxHeartbeats 1000000 in
theorem eqRegime (v1 v2 : Value) (r : Rgm) (w : World) (h1 : GRow w v1 r) (h2 : GRow w v2 r) : Calls Tryz.prog 43 #[v1, v2] w fun e w' => e = .returned (.bool true) ∧ Below w.heap.size w w' := by
  obtain ⟨p1, p2, p3, rfl, hn, x1, x2, x3⟩ := h1
  obtain ⟨q1, q2, q3, rfl, _, y1, y2, y3⟩ := h2
  have KX : ∀ W, Below w.heap.size w W → Calls Tryz.prog 105 #[p1, q1] W fun e w' => e = .returned (.bool true) ∧ Below W.heap.size W w' := fun W hb => eqSegmentS _ _ _ W (x1.below hb) (y1.below hb)
  have KY : ∀ W, Below w.heap.size w W → Calls Tryz.prog 106 #[p2, q2] W fun e w' => e = .returned (.bool true) ∧ Below W.heap.size W w' := fun W hb => eqPatchS _ _ _ W (x2.below hb) (y2.below hb)
  have KZ : ∀ W, Below w.heap.size w W → Calls Tryz.prog 107 #[p3, q3] W fun e w' => e = .returned (.bool true) ∧ Below W.heap.size W w' := fun W hb => eqReignS _ _ _ W (x3.below hb) (y3.below hb)
  obtain ⟨a11, c11, rfl, _⟩ := x1
  obtain ⟨a12, c12, rfl, _⟩ := x2
  obtain ⟨a13, c13, rfl, _⟩ := x3
  obtain ⟨a21, c21, rfl, _⟩ := y1
  obtain ⟨a22, c22, rfl, _⟩ := y2
  obtain ⟨a23, c23, rfl, _⟩ := y3
  have HKX := hideP KX
  have HKY := hideP KY
  have HKZ := hideP KZ
  obtain ⟨W0, hW0⟩ : ∃ W0, W0 = (w.alloc (.cells #[.string r.name, .int .i64 r.fr, .int .i64 r.to, .slice a11 r.segs.length c11, .slice a12 r.pats.length c12, .slice a13 r.rgns.length c13, .int .i64 r.rule] 29)).alloc (.cells #[.string r.name, .int .i64 r.fr, .int .i64 r.to, .slice a21 r.segs.length c21, .slice a22 r.pats.length c22, .slice a23 r.rgns.length c23, .int .i64 r.rule] 29) := ⟨_, rfl⟩
  have hX1 : Blk W0 w.heap.size #[.string r.name, .int .i64 r.fr, .int .i64 r.to, .slice a11 r.segs.length c11, .slice a12 r.pats.length c12, .slice a13 r.rgns.length c13, .int .i64 r.rule] 29 := by rw [hW0]; exact (Blk.new w _ _).alloc _
  have hX2 : Blk W0 (w.heap.size + 1) #[.string r.name, .int .i64 r.fr, .int .i64 r.to, .slice a21 r.segs.length c21, .slice a22 r.pats.length c22, .slice a23 r.rgns.length c23, .int .i64 r.rule] 29 := by rw [hW0]; have := Blk.new (w.alloc (.cells #[.string r.name, .int .i64 r.fr, .int .i64 r.to, .slice a11 r.segs.length c11, .slice a12 r.pats.length c12, .slice a13 r.rgns.length c13, .int .i64 r.rule] 29)) #[.string r.name, .int .i64 r.fr, .int .i64 r.to, .slice a21 r.segs.length c21, .slice a22 r.pats.length c22, .slice a23 r.rgns.length c23, .int .i64 r.rule] 29; rw [World.size_alloc] at this; exact this
  have hW : Below w.heap.size w W0 := by rw [hW0]; exact ((Below.refl _ _).alloc (Nat.le_refl _) _).alloc (by rw [World.size_alloc]; omega) _
  have hBl : ∀ x : Later W0, Below w.heap.size w x.w := fun x => hW.trans (x.below.mono hW.size)
  have HX1 := hideP hX1
  have HX2 := hideP hX2
  have HBl := hideP hBl
  have HW0 := hideP hW0
  clear hX1 hX2 hBl hW0 hW KX KY KZ hn
  have d0 : ∀ x : Later W0, x.w.cell? ⟨w.heap.size, 0, none⟩ = some (.string r.name) := fun x => (HX1.out.later x).cell 0 rfl
  have d1 : ∀ x : Later W0, x.w.cell? ⟨w.heap.size, 1, none⟩ = some (.int .i64 r.fr) := fun x => (HX1.out.later x).cell 1 rfl
  have d2 : ∀ x : Later W0, x.w.cell? ⟨w.heap.size, 2, none⟩ = some (.int .i64 r.to) := fun x => (HX1.out.later x).cell 2 rfl
  have d3 : ∀ x : Later W0, x.w.cell? ⟨w.heap.size, 3, none⟩ = some (.slice a11 r.segs.length c11) := fun x => (HX1.out.later x).cell 3 rfl
  have d4 : ∀ x : Later W0, x.w.cell? ⟨w.heap.size, 4, none⟩ = some (.slice a12 r.pats.length c12) := fun x => (HX1.out.later x).cell 4 rfl
  have d5 : ∀ x : Later W0, x.w.cell? ⟨w.heap.size, 5, none⟩ = some (.slice a13 r.rgns.length c13) := fun x => (HX1.out.later x).cell 5 rfl
  have d6 : ∀ x : Later W0, x.w.cell? ⟨w.heap.size, 6, none⟩ = some (.int .i64 r.rule) := fun x => (HX1.out.later x).cell 6 rfl
  have f0 : ∀ x : Later W0, x.w.cell? ⟨w.heap.size + 1, 0, none⟩ = some (.string r.name) := fun x => (HX2.out.later x).cell 0 rfl
  have f1 : ∀ x : Later W0, x.w.cell? ⟨w.heap.size + 1, 1, none⟩ = some (.int .i64 r.fr) := fun x => (HX2.out.later x).cell 1 rfl
  have f2 : ∀ x : Later W0, x.w.cell? ⟨w.heap.size + 1, 2, none⟩ = some (.int .i64 r.to) := fun x => (HX2.out.later x).cell 2 rfl
  have f3 : ∀ x : Later W0, x.w.cell? ⟨w.heap.size + 1, 3, none⟩ = some (.slice a21 r.segs.length c21) := fun x => (HX2.out.later x).cell 3 rfl
  have f4 : ∀ x : Later W0, x.w.cell? ⟨w.heap.size + 1, 4, none⟩ = some (.slice a22 r.pats.length c22) := fun x => (HX2.out.later x).cell 4 rfl
  have f5 : ∀ x : Later W0, x.w.cell? ⟨w.heap.size + 1, 5, none⟩ = some (.slice a23 r.rgns.length c23) := fun x => (HX2.out.later x).cell 5 rfl
  have f6 : ∀ x : Later W0, x.w.cell? ⟨w.heap.size + 1, 6, none⟩ = some (.int .i64 r.rule) := fun x => (HX2.out.later x).cell 6 rfl
  clear d0 d1 d2 d6 f0 f1 f2 f6
  have g6 : ∀ x : Later W0, x.w.cell? ⟨w.heap.size, 6, none⟩ = some (.int .i64 r.rule) := fun x => (HX1.out.later x).cell 6 rfl
  have k6 : ∀ x : Later W0, x.w.cell? ⟨w.heap.size + 1, 6, none⟩ = some (.int .i64 r.rule) := fun x => (HX2.out.later x).cell 6 rfl
  go_enter Tryz.func43, Tryz.ntmps43
  go_wp2_with fail
  rw [← HW0.out]
  refine (HKX.out _ (HBl.out ⟨W0, Below.refl _ _⟩)).mono ?_
  rintro e w1 ⟨rfl, hb⟩
  obtain ⟨x1, rfl⟩ := Later.of hb
  clear hb
  go_wp2_with fail
  refine (HKY.out _ (HBl.out x1)).mono ?_
  rintro e w2 ⟨rfl, hb⟩
  obtain ⟨x2, rfl⟩ := x1.next hb
  clear hb
  go_wp2_with fail
  refine (HKZ.out _ (HBl.out x2)).mono ?_
  rintro e w3 ⟨rfl, hb⟩
  obtain ⟨x3, rfl⟩ := x2.next hb
  clear hb
  go_wp2_with fail
  go_ret
  exact ⟨rfl, HBl.out x3⟩

end Go.Proofs.YtchhdoipkimbgaaGreatDoor.ctr
