/- Contracts of the program's tables of moons: moonTableOf, moonOf. -/
import Derived.Test.YtckjcaloofjeoaaDoorEasImpl
import Derived.Test.YtckjcaloofjeoaaDoorRowKit2
namespace Go.Proofs.YtckjcaloofjeoaaDoor.ctr
open Go.RowKit

/-- The table's cells where its first k rows are filled. -/
def rowInt (c y : Int) (k j : Nat) : Int := if j / 2 < k then (if j % 2 = 0 then ep c (j / 2 + 1 : Nat) y else moonN c (j / 2 + 1 : Nat) (ep c (j / 2 + 1 : Nat) y)) else 0
def rowCells (c y : Int) (k : Nat) : Array Value := ((List.range 38).map fun j => Value.int .i64 (rowInt c y k j)).toArray
theorem rowCells_size (c y : Int) (k : Nat) : (rowCells c y k).size = 38 := by simp [rowCells]
theorem rowCells_at (c y : Int) (k j : Nat) (hj : j < 38) : (rowCells c y k)[j]? = some (.int .i64 (rowInt c y k j)) := by simp [rowCells, hj]
theorem rowCells_zero (c y : Int) : rowCells c y 0 = #[.int .i64 0, .int .i64 0, .int .i64 0, .int .i64 0, .int .i64 0, .int .i64 0, .int .i64 0, .int .i64 0, .int .i64 0, .int .i64 0, .int .i64 0, .int .i64 0, .int .i64 0, .int .i64 0, .int .i64 0, .int .i64 0, .int .i64 0, .int .i64 0, .int .i64 0, .int .i64 0, .int .i64 0, .int .i64 0, .int .i64 0, .int .i64 0, .int .i64 0, .int .i64 0, .int .i64 0, .int .i64 0, .int .i64 0, .int .i64 0, .int .i64 0, .int .i64 0, .int .i64 0, .int .i64 0, .int .i64 0, .int .i64 0, .int .i64 0, .int .i64 0] := by
  apply Array.ext_getElem?
  intro j
  by_cases hj : j < 38
  · rw [rowCells_at c y 0 j hj]
    unfold rowInt
    rw [if_neg (by omega)]
    have : ∀ j : Fin 38, some (Value.int .i64 0) = (#[.int .i64 0, .int .i64 0, .int .i64 0, .int .i64 0, .int .i64 0, .int .i64 0, .int .i64 0, .int .i64 0, .int .i64 0, .int .i64 0, .int .i64 0, .int .i64 0, .int .i64 0, .int .i64 0, .int .i64 0, .int .i64 0, .int .i64 0, .int .i64 0, .int .i64 0, .int .i64 0, .int .i64 0, .int .i64 0, .int .i64 0, .int .i64 0, .int .i64 0, .int .i64 0, .int .i64 0, .int .i64 0, .int .i64 0, .int .i64 0, .int .i64 0, .int .i64 0, .int .i64 0, .int .i64 0, .int .i64 0, .int .i64 0, .int .i64 0, .int .i64 0] : Array Value)[j.1]? := by
      rw [show (#[.int .i64 0, .int .i64 0, .int .i64 0, .int .i64 0, .int .i64 0, .int .i64 0, .int .i64 0, .int .i64 0, .int .i64 0, .int .i64 0, .int .i64 0, .int .i64 0, .int .i64 0, .int .i64 0, .int .i64 0, .int .i64 0, .int .i64 0, .int .i64 0, .int .i64 0, .int .i64 0, .int .i64 0, .int .i64 0, .int .i64 0, .int .i64 0, .int .i64 0, .int .i64 0, .int .i64 0, .int .i64 0, .int .i64 0, .int .i64 0, .int .i64 0, .int .i64 0, .int .i64 0, .int .i64 0, .int .i64 0, .int .i64 0, .int .i64 0, .int .i64 0] : Array Value) = Array.replicate 38 (.int .i64 0) from rfl]
      intro j
      simp
    exact this ⟨j, hj⟩
  · rw [Array.getElem?_eq_none (by rw [rowCells_size]; omega), Array.getElem?_eq_none (by simp; omega)]
theorem rowCells_set (c y : Int) (k : Nat) : ((rowCells c y k).setIfInBounds (k * 2) (.int .i64 (ep c (k + 1 : Nat) y))).setIfInBounds (k * 2 + 1) (.int .i64 (moonN c (k + 1 : Nat) (ep c (k + 1 : Nat) y))) = rowCells c y (k + 1) := by
  apply Array.ext_getElem?
  intro j
  by_cases hj : j < 38
  · rw [rowCells_at c y (k + 1) j hj]
    by_cases e1 : k * 2 + 1 = j
    · subst e1
      rw [Array.getElem?_setIfInBounds_self_of_lt (by rw [Array.size_setIfInBounds, rowCells_size]; omega)]
      unfold rowInt
      rw [if_pos (by omega), if_neg (by omega), show (k * 2 + 1) / 2 = k by omega]
    · rw [Array.getElem?_setIfInBounds_ne e1]
      by_cases e0 : k * 2 = j
      · subst e0
        rw [Array.getElem?_setIfInBounds_self_of_lt (by rw [rowCells_size]; omega)]
        unfold rowInt
        rw [if_pos (by omega), if_pos (by omega), show (k * 2) / 2 = k by omega]
      · rw [Array.getElem?_setIfInBounds_ne e0, rowCells_at c y k j hj]
        unfold rowInt
        by_cases hl : j / 2 < k
        · rw [if_pos hl, if_pos (show j / 2 < k + 1 by omega)]
        · rw [if_neg hl, if_neg (by omega)]
  · rw [Array.getElem?_eq_none (by simp only [Array.size_setIfInBounds, rowCells_size]; omega), Array.getElem?_eq_none (by rw [rowCells_size]; omega)]

theorem rowCells_one (c y : Int) (k : Nat) : (rowCells c y k).all (·.oneCell') = true := by
  rw [Array.all_eq_true_iff_forall_mem]
  intro v hv
  simp only [rowCells, List.mem_toArray, List.mem_map] at hv
  obtain ⟨j, _, rfl⟩ := hv
  rfl
theorem rowInfo : (Tryd.prog.info? 81).map (·.size) = some 38 := by kernel_rfl
set_option maxHeartbeats 4000000 in
theorem julTable (y : Int) (w : World) : Calls Tryd.prog 111 #[.agg #[], .int .i64 y] w fun e w' => e = .returned (.agg (rowCells 0 y 19)) ∧ Below w.heap.size w w' := by
  go_enter Tryd.func111, Tryd.ntmps111
  go_wp2
  rw [← rowCells_zero 0 y]
  go_loopw [8] (fun i wr => ∃ k : Nat, k ≤ 19 ∧ i = .int .i64 (k : Int) ∧ Below w.heap.size w wr ∧ Blk wr (w.heap.size + 1) (rowCells 0 y 0) 81 ∧ Blk wr (w.heap.size + 1 + 1) (rowCells 0 y k) 81) (fun i _ => 19 - (intOf i).toNat)
  case atStart =>
    refine ⟨0, by omega, rfl, ?_, ?_, ?_⟩
    · exact (((Below.refl _ _).alloc (Nat.le_refl _) _).alloc (by simp) _).alloc (by simp; omega) _
    · have h := ((Blk.new (w.alloc (.cells #[] 70)) (rowCells 0 y 0) 81).alloc (.cells (rowCells 0 y 0) 81))
      simpa using h
    · have h := Blk.new ((w.alloc (.cells #[] 70)).alloc (.cells (rowCells 0 y 0) 81)) (rowCells 0 y 0) 81
      simpa using h
  case round =>
    obtain ⟨k, hk, rfl, hb, h1, h2⟩ := hrel
    have HB := hideP hb
    have H1 := hideP h1
    have H2 := hideP h2
    clear hb h1 h2
    by_cases hlt : k < 19
    · go_wp2_with fail
      refine (julEpact ((k : Int) + 1) y _ (by omega) (by omega)).mono ?_
      rintro e w1 ⟨rfl, hb⟩
      have HB1 : Hid (Below w.heap.size w w1) := HB.out.trans (hb.mono HB.out.size)
      have H11 : Hid (Blk w1 (w.heap.size + 1) (rowCells 0 y 0) 81) := H1.out.below hb H1.out.lt
      have H21 : Hid (Blk w1 (w.heap.size + 1 + 1) (rowCells 0 y k) 81) := H2.out.below hb H2.out.lt
      clear hb
      have he := ep_b 0 ((k : Int) + 1) y
      have HE : Hid (ep 0 ((k : Int) + 1) y = ep 0 ((k + 1 : Nat) : Int) y) := by unfold Hid; rw [show (((k + 1 : Nat) : Int)) = (k : Int) + 1 from by omega]
      have HM : Hid (moonN 0 ((k : Int) + 1) (ep 0 ((k : Int) + 1) y) = moonN 0 ((k + 1 : Nat) : Int) (ep 0 ((k + 1 : Nat) : Int) y)) := by unfold Hid; rw [show (((k + 1 : Nat) : Int)) = (k : Int) + 1 from by omega]
      have KF : ∀ W, Calls Tryd.prog 130 #[.agg #[], .int .i64 ((k : Int) + 1), .int .i64 (ep 0 ((k : Int) + 1) y)] W fun e w' => e = .returned (.int .i64 (moonN 0 ((k : Int) + 1) (ep 0 ((k : Int) + 1) y))) ∧ Below W.heap.size W w' := fun W => julFull _ _ W (by omega) (by omega)
      generalize moonN 0 ((k : Int) + 1) (ep 0 ((k : Int) + 1) y) = mo at *
      generalize ep 0 ((k : Int) + 1) y = E at *
      go_wp2_with fail
      refine (KF _).mono ?_
      rintro e w2 ⟨rfl, hb⟩
      have HB2 : Hid (Below w.heap.size w w2) := HB1.out.trans (hb.mono HB1.out.size)
      have H12 : Hid (Blk w2 (w.heap.size + 1) (rowCells 0 y 0) 81) := H11.out.below hb H11.out.lt
      have H22 : Hid (Blk w2 (w.heap.size + 1 + 1) (rowCells 0 y k) 81) := H21.out.below hb H21.out.lt
      clear hb
      have c0 := H22.out.cell (k * 2) (rowCells_at 0 y k (k * 2) (by omega))
      have c1 := H22.out.cell (k * 2 + 1) (rowCells_at 0 y k (k * 2 + 1) (by omega))
      have f0 := H22.out.thaw (k * 2)
      have f1 := H22.out.thaw (k * 2 + 1)
      go_wp2_with fail
      refine ⟨⟨k + 1, by omega, by go_num, below_store (below_store HB2.out _ (by omega)) _ (by omega), (H12.out.other (by omega)).other (by omega), ?_⟩, by simp [intOf]; omega⟩
      have h := (H22.out.set (k * 2) (.int .i64 E)).set (k * 2 + 1) (.int .i64 mo)
      have e := rowCells_set 0 y k
      rw [← HM.out, ← HE.out] at e
      rw [e] at h
      exact h
    · have hk19 : k = 19 := by omega
      subst hk19
      have i19 : (Tryd.prog.info? 81).map (·.size) = some (rowCells 0 y 19).size := by rw [rowCells_size]; exact rowInfo
      have s19 : (rowCells 0 y 0).size = (rowCells 0 y 19).size := by rw [rowCells_size, rowCells_size]
      have I19 := hideP i19
      have S19 := hideP s19
      clear i19 s19
      go_wp2_with (first
        | (refine wpList_load_row _ rfl 81 _ rfl (w.heap.size + 1 + 1) (rowCells 0 y 19) rfl H2.out _ Tryd.underlying81 rfl I19.out ?_)
        | (refine wpList_store_row _ rfl 81 _ _ rfl (w.heap.size + 1) (rowCells 0 y 0) (rowCells 0 y 19) rfl rfl H1.out I19.out S19.out (rowCells_one 0 y 19) ?_))
      exact bodyPost_ret (results_row rfl rfl (H1.out.setRow _) _ _ Tryd.underlying81 I19.out) rfl ⟨rfl, below_setRow HB.out _ (by omega)⟩
set_option maxHeartbeats 4000000 in
theorem greTable (y : Int) (w : World) (hy1 : 1 ≤ y) (hy2 : y ≤ 3000) : Calls Tryd.prog 112 #[.agg #[], .int .i64 y] w fun e w' => e = .returned (.agg (rowCells 1 y 19)) ∧ Below w.heap.size w w' := by
  go_enter Tryd.func112, Tryd.ntmps112
  go_wp2
  rw [← rowCells_zero 1 y]
  go_loopw [8] (fun i wr => ∃ k : Nat, k ≤ 19 ∧ i = .int .i64 (k : Int) ∧ Below w.heap.size w wr ∧ Blk wr (w.heap.size + 1) (rowCells 1 y 0) 81 ∧ Blk wr (w.heap.size + 1 + 1) (rowCells 1 y k) 81) (fun i _ => 19 - (intOf i).toNat)
  case atStart =>
    refine ⟨0, by omega, rfl, ?_, ?_, ?_⟩
    · exact (((Below.refl _ _).alloc (Nat.le_refl _) _).alloc (by simp) _).alloc (by simp; omega) _
    · have h := ((Blk.new (w.alloc (.cells #[] 71)) (rowCells 1 y 0) 81).alloc (.cells (rowCells 1 y 0) 81))
      simpa using h
    · have h := Blk.new ((w.alloc (.cells #[] 71)).alloc (.cells (rowCells 1 y 0) 81)) (rowCells 1 y 0) 81
      simpa using h
  case round =>
    obtain ⟨k, hk, rfl, hb, h1, h2⟩ := hrel
    have HB := hideP hb
    have H1 := hideP h1
    have H2 := hideP h2
    clear hb h1 h2
    by_cases hlt : k < 19
    · go_wp2_with fail
      refine (greEpact ((k : Int) + 1) y _ (by omega) (by omega) hy1 hy2).mono ?_
      rintro e w1 ⟨rfl, hb⟩
      have HB1 : Hid (Below w.heap.size w w1) := HB.out.trans (hb.mono HB.out.size)
      have H11 : Hid (Blk w1 (w.heap.size + 1) (rowCells 1 y 0) 81) := H1.out.below hb H1.out.lt
      have H21 : Hid (Blk w1 (w.heap.size + 1 + 1) (rowCells 1 y k) 81) := H2.out.below hb H2.out.lt
      clear hb
      have he := ep_b 1 ((k : Int) + 1) y
      have HE : Hid (ep 1 ((k : Int) + 1) y = ep 1 ((k + 1 : Nat) : Int) y) := by unfold Hid; rw [show (((k + 1 : Nat) : Int)) = (k : Int) + 1 from by omega]
      have HM : Hid (moonN 1 ((k : Int) + 1) (ep 1 ((k : Int) + 1) y) = moonN 1 ((k + 1 : Nat) : Int) (ep 1 ((k + 1 : Nat) : Int) y)) := by unfold Hid; rw [show (((k + 1 : Nat) : Int)) = (k : Int) + 1 from by omega]
      have KF : ∀ W, Calls Tryd.prog 134 #[.agg #[], .int .i64 ((k : Int) + 1), .int .i64 (ep 1 ((k : Int) + 1) y)] W fun e w' => e = .returned (.int .i64 (moonN 1 ((k : Int) + 1) (ep 1 ((k : Int) + 1) y))) ∧ Below W.heap.size W w' := fun W => greFull _ _ W he.1 he.2
      generalize moonN 1 ((k : Int) + 1) (ep 1 ((k : Int) + 1) y) = mo at *
      generalize ep 1 ((k : Int) + 1) y = E at *
      go_wp2_with fail
      refine (KF _).mono ?_
      rintro e w2 ⟨rfl, hb⟩
      have HB2 : Hid (Below w.heap.size w w2) := HB1.out.trans (hb.mono HB1.out.size)
      have H12 : Hid (Blk w2 (w.heap.size + 1) (rowCells 1 y 0) 81) := H11.out.below hb H11.out.lt
      have H22 : Hid (Blk w2 (w.heap.size + 1 + 1) (rowCells 1 y k) 81) := H21.out.below hb H21.out.lt
      clear hb
      have c0 := H22.out.cell (k * 2) (rowCells_at 1 y k (k * 2) (by omega))
      have c1 := H22.out.cell (k * 2 + 1) (rowCells_at 1 y k (k * 2 + 1) (by omega))
      have f0 := H22.out.thaw (k * 2)
      have f1 := H22.out.thaw (k * 2 + 1)
      go_wp2_with fail
      refine ⟨⟨k + 1, by omega, by go_num, below_store (below_store HB2.out _ (by omega)) _ (by omega), (H12.out.other (by omega)).other (by omega), ?_⟩, by simp [intOf]; omega⟩
      have h := (H22.out.set (k * 2) (.int .i64 E)).set (k * 2 + 1) (.int .i64 mo)
      have e := rowCells_set 1 y k
      rw [← HM.out, ← HE.out] at e
      rw [e] at h
      exact h
    · have hk19 : k = 19 := by omega
      subst hk19
      have i19 : (Tryd.prog.info? 81).map (·.size) = some (rowCells 1 y 19).size := by rw [rowCells_size]; exact rowInfo
      have s19 : (rowCells 1 y 0).size = (rowCells 1 y 19).size := by rw [rowCells_size, rowCells_size]
      have I19 := hideP i19
      have S19 := hideP s19
      clear i19 s19
      go_wp2_with (first
        | (refine wpList_load_row _ rfl 81 _ rfl (w.heap.size + 1 + 1) (rowCells 1 y 19) rfl H2.out _ Tryd.underlying81 rfl I19.out ?_)
        | (refine wpList_store_row _ rfl 81 _ _ rfl (w.heap.size + 1) (rowCells 1 y 0) (rowCells 1 y 19) rfl rfl H1.out I19.out S19.out (rowCells_one 1 y 19) ?_))
      exact bodyPost_ret (results_row rfl rfl (H1.out.setRow _) _ _ Tryd.underlying81 I19.out) rfl ⟨rfl, below_setRow HB.out _ (by omega)⟩
end Go.Proofs.YtckjcaloofjeoaaDoor.ctr
