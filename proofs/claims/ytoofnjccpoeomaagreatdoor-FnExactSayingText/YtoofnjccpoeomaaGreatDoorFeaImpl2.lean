/- Contract of the program's Feasts: it answers the twenty feasts' cells, in a row of its own; nothing that was there turns. -/
import Derived.Test.YtoofnjccpoeomaaGreatDoorFeaImpl
namespace Go.Proofs.YtoofnjccpoeomaaGreatDoor.ctr
open Go.RowKit

theorem own_mono5 {w : World} {b b' e size : Nat} {v : Value} {n : Nat} {xs : List Value} (h : w.ownsRow b e size v n xs) (hb : b' ≤ b) : w.ownsRow b' e size v n xs := by
  obtain ⟨h1, h | ⟨g, cap, cur, hv, hg, hr⟩⟩ := h
  · exact ⟨h1, .inl h⟩
  · exact ⟨h1, .inr ⟨g, cap, cur, hv, Nat.le_trans hb hg, hr⟩⟩
theorem implWith (g1 c1 g2 c2 : Nat) (w : World) (hg1 : g1 < w.heap.size) (hg2 : g2 < w.heap.size)
    (h1 : ∀ j u, (feaCells.take 50)[j]? = some u → w.cell? ⟨g1, j, none⟩ = some u) (h2 : ∀ j u, (feaCells.drop 50)[j]? = some u → w.cell? ⟨g2, j, none⟩ = some u) :
    Calls Tryz.prog 85 #[.slice (some ⟨g1, 0, none⟩) 10 c1, .slice (some ⟨g2, 0, none⟩) 10 c2] w fun e w' => ∃ v, e = .returned v ∧ FeaOwn w w' v ∧ Below w.heap.size w w' := by
  have K := fun t => implConcat w.heap.size g1 c1 g2 c2 t (w.alloc (.cells #[.slice (some ⟨g1, 0, none⟩) 10 c1, .slice (some ⟨g2, 0, none⟩) 10 c2] t)) (Blk.new w _ _) (by rw [sz_new]; omega) (by rw [sz_new]; omega)
    (fun j u hj => (((Below.refl w.heap.size w).alloc (Nat.le_refl _) _).cell (p := ⟨g1, j, none⟩) hg1).trans (h1 j u hj)) (fun j u hj => (((Below.refl w.heap.size w).alloc (Nat.le_refl _) _).cell (p := ⟨g2, j, none⟩) hg2).trans (h2 j u hj))
  clear h1 h2
  go_enter Tryz.func85, Tryz.ntmps85
  go_wp2_with fail
  refine (K _).mono ?_
  rintro e w1 ⟨v, rfl, hr, hb⟩
  go_wp2
  go_ret
  exact ⟨v, rfl, own_mono5 hr (by rw [sz_new]; omega), below_alloc hb⟩

theorem list_at (cs : List Value) (W : World) (t : TypeId) {k j : Nat} {f : Fea} (h : cs[k * 5 + j]? = f.cs[j]?) : (W.alloc (.cells cs.toArray t)).cell? ⟨W.heap.size, k * 5 + j, none⟩ = f.cs[j]? := by
  rw [← h]
  simp [World.alloc, World.cell?, -World.alloc_eq]
set_option maxRecDepth 100000 in
set_option maxHeartbeats 4000000 in
theorem implFeasts (w : World) : Calls Tryz.prog 63 #[] w fun e w' => ∃ v, e = .returned v ∧ FeaOwn w w' v ∧ Below w.heap.size w w' := by
  go_enter Tryz.func63, Tryz.ntmps63
  go_wp2_with fail
  refine (implOnEaster _ _ _).mono ?_
  rintro e w1 ⟨rfl, hb⟩
  obtain ⟨x1, rfl⟩ := Later.of hb
  clear hb
  go_wp2_with fail
  refine (implOnEaster _ _ _).mono ?_
  rintro e w2 ⟨rfl, hb⟩
  obtain ⟨x2, rfl⟩ := x1.next hb
  clear hb
  go_wp2_with fail
  refine (implOnEaster _ _ _).mono ?_
  rintro e w3 ⟨rfl, hb⟩
  obtain ⟨x3, rfl⟩ := x2.next hb
  clear hb
  go_wp2_with fail
  refine (implOnEaster _ _ _).mono ?_
  rintro e w4 ⟨rfl, hb⟩
  obtain ⟨x4, rfl⟩ := x3.next hb
  clear hb
  go_wp2_with fail
  refine (implOnEaster _ _ _).mono ?_
  rintro e w5 ⟨rfl, hb⟩
  obtain ⟨x5, rfl⟩ := x4.next hb
  clear hb
  go_wp2_with fail
  refine (implOnEaster _ _ _).mono ?_
  rintro e w6 ⟨rfl, hb⟩
  obtain ⟨x6, rfl⟩ := x5.next hb
  clear hb
  go_wp2_with fail
  refine (implOnEaster _ _ _).mono ?_
  rintro e w7 ⟨rfl, hb⟩
  obtain ⟨x7, rfl⟩ := x6.next hb
  clear hb
  go_wp2_with fail
  refine (implOnEaster _ _ _).mono ?_
  rintro e w8 ⟨rfl, hb⟩
  obtain ⟨x8, rfl⟩ := x7.next hb
  clear hb
  go_wp2_with fail
  refine (implOnEaster _ _ _).mono ?_
  rintro e w9 ⟨rfl, hb⟩
  obtain ⟨x9, rfl⟩ := x8.next hb
  clear hb
  go_wp2_with fail
  refine (implOnEaster _ _ _).mono ?_
  rintro e w10 ⟨rfl, hb⟩
  obtain ⟨x10, rfl⟩ := x9.next hb
  clear hb
  go_wp2_with fail
  refine (implMoving x10.w.heap.size 10 _ (by rw [sz_new]; omega) (fun k hk j hj => list_at (feaCells.take 50) x10.w _ (by rw [List.getElem?_take, if_pos (by omega)]; exact feaCell (by omega) hj))).mono ?_
  rintro e w11 ⟨v1, rfl, hr, hb⟩
  obtain ⟨g1, c1, rfl, hg1, hl1, hc1⟩ := cells_row hr (by omega)
  have hg1' : w.heap.size ≤ g1 := by rw [sz_new] at hg1; have := x10.below.size; omega
  obtain ⟨x11, rfl⟩ : ∃ x : Later w, w11 = x.w := ⟨⟨w11, (x10.below.alloc x10.below.size _).trans (hb.mono (by rw [sz_new]; have := x10.below.size; omega))⟩, rfl⟩
  have HC := hideP hc1
  clear hr hb hc1
  go_wp2_with fail
  refine (implOnDate _ _ _ _).mono ?_
  rintro e z1 ⟨rfl, hb⟩
  obtain ⟨y1, rfl⟩ := Later.of hb
  clear hb
  go_wp2_with fail
  refine (implOnDate _ _ _ _).mono ?_
  rintro e z2 ⟨rfl, hb⟩
  obtain ⟨y2, rfl⟩ := y1.next hb
  clear hb
  go_wp2_with fail
  refine (implOnDate _ _ _ _).mono ?_
  rintro e z3 ⟨rfl, hb⟩
  obtain ⟨y3, rfl⟩ := y2.next hb
  clear hb
  go_wp2_with fail
  refine (implOnDate _ _ _ _).mono ?_
  rintro e z4 ⟨rfl, hb⟩
  obtain ⟨y4, rfl⟩ := y3.next hb
  clear hb
  go_wp2_with fail
  refine (implOnDate _ _ _ _).mono ?_
  rintro e z5 ⟨rfl, hb⟩
  obtain ⟨y5, rfl⟩ := y4.next hb
  clear hb
  go_wp2_with fail
  refine (implOnDate _ _ _ _).mono ?_
  rintro e z6 ⟨rfl, hb⟩
  obtain ⟨y6, rfl⟩ := y5.next hb
  clear hb
  go_wp2_with fail
  refine (implOnDate _ _ _ _).mono ?_
  rintro e z7 ⟨rfl, hb⟩
  obtain ⟨y7, rfl⟩ := y6.next hb
  clear hb
  go_wp2_with fail
  refine (implOnDate _ _ _ _).mono ?_
  rintro e z8 ⟨rfl, hb⟩
  obtain ⟨y8, rfl⟩ := y7.next hb
  clear hb
  go_wp2_with fail
  refine (implOnDate _ _ _ _).mono ?_
  rintro e z9 ⟨rfl, hb⟩
  obtain ⟨y9, rfl⟩ := y8.next hb
  clear hb
  go_wp2_with fail
  refine (implOnDate _ _ _ _).mono ?_
  rintro e z10 ⟨rfl, hb⟩
  obtain ⟨y10, rfl⟩ := y9.next hb
  clear hb
  have HA : Hid (∀ t, Below x11.w.heap.size x11.w (y10.w.alloc (.cells (feaCells.drop 50).toArray t))) := fun t => y10.below.alloc y10.below.size _
  have hls : g1 < y10.w.heap.size + 1 := by have := y10.below.size; omega
  go_wp2_with fail
  refine (implWith g1 c1 y10.w.heap.size 10 _ (by rw [sz_new]; exact hls) (by rw [sz_new]; omega) (fun j u hj => ((HA.out _).cell (p := ⟨g1, j, none⟩) hl1).trans (HC.out j u hj)) (fun j u hj => ?_)).mono ?_
  · have h := cells_new5 y10.w (feaCells.drop 50) 78 rfl j u hj
    have ha : (⟨y10.w.heap.size, 0, none⟩ : Addr).add j = ⟨y10.w.heap.size, j, none⟩ := by unfold Addr.add; split <;> simp_all
    rw [ha] at h
    exact h
  rintro e w12 ⟨v, rfl, hr, hb⟩
  have hB0 : Below w.heap.size w (y10.w.alloc (.cells (feaCells.drop 50).toArray 78)) := x11.below.trans ((HA.out _).mono x11.below.size)
  have hB : Below w.heap.size w w12 := hB0.trans (hb.mono hB0.size)
  have hr' := own_mono5 hr hB0.size
  have HR := hideP hr'
  have HB := hideP hB
  clear hr hb hr' hB hB0
  go_wp2
  go_ret
  exact ⟨v, rfl, HR.out, HB.out⟩
end Go.Proofs.YtoofnjccpoeomaaGreatDoor.ctr
