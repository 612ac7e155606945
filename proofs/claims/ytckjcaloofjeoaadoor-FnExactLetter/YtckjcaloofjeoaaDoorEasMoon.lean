/- Contracts of the program's moonOf, Epact, FullMoon, EasterTable. -/
import Derived.Test.YtckjcaloofjeoaaDoorEasTab
namespace Go.Proofs.YtckjcaloofjeoaaDoor.ctr
open Go.RowKit

def moonInt (c y : Int) (k : Nat) : Int := if yearP c y then (if k = 0 then ep c (y % 19 + 1) y else moonOff c y) else 0

theorem extract_two (R : Array Value) (i : Nat) (u v : Value) (h0 : R[i]? = some u) (h1 : R[i + 1]? = some v) : R.extract i (i + 2) = #[u, v] := by
  have hs : i + 1 < R.size := by
    by_cases h : i + 1 < R.size
    · exact h
    · rw [Array.getElem?_eq_none (by omega)] at h1
      cases h1
  apply Array.ext_getElem?
  intro j
  by_cases hj : j < 2
  · rw [Array.getElem?_extract, if_pos (by omega)]
    have : j = 0 ∨ j = 1 := by omega
    rcases this with rfl | rfl
    · rw [Nat.add_zero, h0]; rfl
    · rw [h1]; rfl
  · rw [Array.getElem?_eq_none (by simp; omega), Array.getElem?_eq_none (by simp; omega)]
theorem indexRow (R : Array Value) (a : Nat) (u v : Value) (W : World) (ha : a < 19) (h0 : R[a * 2]? = some u) (h1 : R[a * 2 + 1]? = some v) :
    (Instr.index 81 (.agg R) (.int .i64 (a : Int))).run Tryd.prog W = .ok (.agg #[u, v]) W := by
  have hn : 0 ≤ (a : Int) ∧ (a : Int) < ((19 : Nat) : Int) := by omega
  have hx := extract_two R (a * 2) u v h0 h1
  simp [Instr.index, run_underlying Tryd.underlying81, asIntOf, go_sem, part, ha, hx]
set_option maxHeartbeats 1000000 in
theorem implMoon (c y : Int) (w : World) (hT : Tab w) : Calls Tryd.prog 101 #[.int .i64 c, .int .i64 y] w fun e w' => e = .returned (.agg #[.int .i64 (moonInt c y 0), .int .i64 (moonInt c y 1)]) ∧ Below w.heap.size w w' := by
  obtain ⟨W0, hW0⟩ : ∃ W0, W0 = w.alloc (.cells #[.int .i64 0, .int .i64 0] 74) := ⟨_, rfl⟩
  have hB0 : ∀ x : Later W0, Blk x.w w.heap.size #[.int .i64 0, .int .i64 0] 74 := fun x => (by rw [hW0]; exact Blk.new w _ _ : Blk W0 w.heap.size #[.int .i64 0, .int .i64 0] 74).later x
  have HB0 : Hid (∀ x : Later W0, Blk x.w w.heap.size #[.int .i64 0, .int .i64 0] 74) := hB0
  have HW0 : Hid (W0 = _) := hW0
  have KY := implYearOk c y W0 (hT.later (by rw [hW0]; exact (Below.refl _ _).alloc (Nat.le_refl _) _))
  clear hT hB0 hW0
  by_cases h : yearP c y
  · rw [yearB_true h] at KY
    have KG : ∀ W, Calls Tryd.prog 65 #[.int .i64 y] W fun e w' => e = .returned (.int .i64 (y % 19 + 1)) ∧ w' = W := by rw [← golden_year h]; exact implGolden y
    obtain ⟨a, ha⟩ := Int.eq_ofNat_of_zero_le (show 0 ≤ y % 19 by omega)
    have ha18 : a < 19 := by omega
    have H0 : Hid (moonInt c y 0 = rowInt c y 19 (a * 2)) := by
      unfold Hid moonInt rowInt
      rw [if_pos h, if_pos rfl, if_pos (by omega), if_pos (by omega), ha]
      congr 1
      omega
    have H1 : Hid (moonInt c y 1 = rowInt c y 19 (a * 2 + 1)) := by
      unfold Hid moonInt rowInt moonOff
      rw [if_pos h, if_neg (by omega), if_pos (by omega), if_neg (by omega), ha, show (((a * 2 + 1) / 2 + 1 : Nat) : Int) = (a : Int) + 1 by omega]
    rw [ha] at KG
    obtain ⟨hc, hy1, hy2⟩ := h
    rcases hc with rfl | rfl
    · have KT : ∀ W, Calls Tryd.prog 111 #[.agg #[], .int .i64 y] W fun e w' => e = .returned (.agg (rowCells 0 y 19)) ∧ Below W.heap.size W w' := julTable y
      rw [H0.out, H1.out]
      clear H0 H1
      have KI : ∀ W, (Instr.index 81 (.agg (rowCells 0 y 19)) (.int .i64 (a : Int))).run Tryd.prog W = .ok (.agg #[.int .i64 (rowInt 0 y 19 (a * 2)), .int .i64 (rowInt 0 y 19 (a * 2 + 1))]) W := fun W => indexRow _ a _ _ W ha18 (rowCells_at 0 y 19 _ (by omega)) (rowCells_at 0 y 19 _ (by omega))
      generalize rowInt 0 y 19 (a * 2) = r0 at *
      generalize rowInt 0 y 19 (a * 2 + 1) = r1 at *
      generalize rowCells 0 y 19 = R at *
      go_enter Tryd.func101, Tryd.ntmps101
      go_wp2_with fail
      rw [← HW0.out]
      refine KY.mono ?_
      rintro e w1 ⟨rfl, hb⟩
      obtain ⟨x1, rfl⟩ := Later.of hb
      clear hb
      go_wp2_with fail
      refine (KG _).mono ?_
      rintro e w2 ⟨rfl, rfl⟩
      go_wp2_with fail
      refine (KT _).mono ?_
      rintro e w3 ⟨rfl, hb3⟩
      obtain ⟨x2, rfl⟩ := x1.next hb3
      clear hb3
      have b0 : x2.w.cell? ⟨w.heap.size, 0, none⟩ = some (.int .i64 0) := (HB0.out x2).cell 0 rfl
      have b1 : x2.w.cell? ⟨w.heap.size, 1, none⟩ = some (.int .i64 0) := (HB0.out x2).cell 1 rfl
      have f0 := (HB0.out x2).thaw 0
      have f1 := (HB0.out x2).thaw 1
      go_wp2_with fail
      obtain ⟨W9, e9⟩ : ∃ W9, W9 = (x2.w.setCell ⟨w.heap.size, 0, none⟩ (.int .i64 r0)).setCell ⟨w.heap.size, 1, none⟩ (.int .i64 r1) := ⟨_, rfl⟩
      have Z9 : Blk W9 w.heap.size #[.int .i64 r0, .int .i64 r1] 74 := by rw [e9]; exact ((HB0.out x2).set 0 _).set 1 _
      have B9 : Below w.heap.size w W9 := by rw [e9]; exact below_store (below_store (below_of_alloc HW0.out x2.below) _ (Nat.le_refl _)) _ (Nat.le_refl _)
      rw [← e9]
      clear e9
      have z0 : W9.cell? ⟨w.heap.size, 0, none⟩ = some (.int .i64 r0) := Z9.cell 0 rfl
      have z1 : W9.cell? ⟨w.heap.size, 1, none⟩ = some (.int .i64 r1) := Z9.cell 1 rfl
      exact bodyPost_ret (by simp [results, Tryd.results101, go_sem, z0, z1]; try rfl) rfl ⟨rfl, B9⟩
    · have KT : ∀ W, Calls Tryd.prog 112 #[.agg #[], .int .i64 y] W fun e w' => e = .returned (.agg (rowCells 1 y 19)) ∧ Below W.heap.size W w' := fun W => greTable y W hy1 hy2
      rw [H0.out, H1.out]
      clear H0 H1
      have KI : ∀ W, (Instr.index 81 (.agg (rowCells 1 y 19)) (.int .i64 (a : Int))).run Tryd.prog W = .ok (.agg #[.int .i64 (rowInt 1 y 19 (a * 2)), .int .i64 (rowInt 1 y 19 (a * 2 + 1))]) W := fun W => indexRow _ a _ _ W ha18 (rowCells_at 1 y 19 _ (by omega)) (rowCells_at 1 y 19 _ (by omega))
      generalize rowInt 1 y 19 (a * 2) = r0 at *
      generalize rowInt 1 y 19 (a * 2 + 1) = r1 at *
      generalize rowCells 1 y 19 = R at *
      go_enter Tryd.func101, Tryd.ntmps101
      go_wp2_with fail
      rw [← HW0.out]
      refine KY.mono ?_
      rintro e w1 ⟨rfl, hb⟩
      obtain ⟨x1, rfl⟩ := Later.of hb
      clear hb
      go_wp2_with fail
      refine (KG _).mono ?_
      rintro e w2 ⟨rfl, rfl⟩
      go_wp2_with fail
      refine (KT _).mono ?_
      rintro e w3 ⟨rfl, hb3⟩
      obtain ⟨x2, rfl⟩ := x1.next hb3
      clear hb3
      have b0 : x2.w.cell? ⟨w.heap.size, 0, none⟩ = some (.int .i64 0) := (HB0.out x2).cell 0 rfl
      have b1 : x2.w.cell? ⟨w.heap.size, 1, none⟩ = some (.int .i64 0) := (HB0.out x2).cell 1 rfl
      have f0 := (HB0.out x2).thaw 0
      have f1 := (HB0.out x2).thaw 1
      go_wp2_with fail
      obtain ⟨W9, e9⟩ : ∃ W9, W9 = (x2.w.setCell ⟨w.heap.size, 0, none⟩ (.int .i64 r0)).setCell ⟨w.heap.size, 1, none⟩ (.int .i64 r1) := ⟨_, rfl⟩
      have Z9 : Blk W9 w.heap.size #[.int .i64 r0, .int .i64 r1] 74 := by rw [e9]; exact ((HB0.out x2).set 0 _).set 1 _
      have B9 : Below w.heap.size w W9 := by rw [e9]; exact below_store (below_store (below_of_alloc HW0.out x2.below) _ (Nat.le_refl _)) _ (Nat.le_refl _)
      rw [← e9]
      clear e9
      have z0 : W9.cell? ⟨w.heap.size, 0, none⟩ = some (.int .i64 r0) := Z9.cell 0 rfl
      have z1 : W9.cell? ⟨w.heap.size, 1, none⟩ = some (.int .i64 r1) := Z9.cell 1 rfl
      exact bodyPost_ret (by simp [results, Tryd.results101, go_sem, z0, z1]; try rfl) rfl ⟨rfl, B9⟩
  · rw [yearB_false h] at KY
    have H0 : Hid (moonInt c y 0 = 0) := by unfold Hid moonInt; rw [if_neg h]
    have H1 : Hid (moonInt c y 1 = 0) := by unfold Hid moonInt; rw [if_neg h]
    rw [H0.out, H1.out]
    clear h H0 H1
    go_enter Tryd.func101, Tryd.ntmps101
    go_wp2_with fail
    rw [← HW0.out]
    refine KY.mono ?_
    rintro e w1 ⟨rfl, hb⟩
    obtain ⟨x1, rfl⟩ := Later.of hb
    clear hb
    have b0 : x1.w.cell? ⟨w.heap.size, 0, none⟩ = some (.int .i64 0) := (HB0.out x1).cell 0 rfl
    have b1 : x1.w.cell? ⟨w.heap.size, 1, none⟩ = some (.int .i64 0) := (HB0.out x1).cell 1 rfl
    have f0 := (HB0.out x1).thaw 0
    have f1 := (HB0.out x1).thaw 1
    go_wp2
    obtain ⟨W9, e9⟩ : ∃ W9, W9 = (x1.w.setCell ⟨w.heap.size, 0, none⟩ (.int .i64 0)).setCell ⟨w.heap.size, 1, none⟩ (.int .i64 0) := ⟨_, rfl⟩
    have Z9 : Blk W9 w.heap.size #[.int .i64 0, .int .i64 0] 74 := by rw [e9]; exact ((HB0.out x1).set 0 _).set 1 _
    have B9 : Below w.heap.size w W9 := by rw [e9]; exact below_store (below_store (below_of_alloc HW0.out x1.below) _ (Nat.le_refl _)) _ (Nat.le_refl _)
    rw [← e9]
    clear e9
    have z0 : W9.cell? ⟨w.heap.size, 0, none⟩ = some (.int .i64 0) := Z9.cell 0 rfl
    have z1 : W9.cell? ⟨w.heap.size, 1, none⟩ = some (.int .i64 0) := Z9.cell 1 rfl
    exact bodyPost_ret (by simp [results, Tryd.results101, go_sem, z0, z1]; try rfl) rfl ⟨rfl, B9⟩
end Go.Proofs.YtckjcaloofjeoaaDoor.ctr
