/- The program's runOn, joinRuns and joined (at runs): a day's run, whether one goes on as another, a list of runs made of their joints. The model's Concord: the runs of days that two regimes have with one shift each, in a row of their own. The program's joined, at runs: each two neighbours that join are made one, in a row of their own. -/
import Derived.Test.YtdgolaaheakfoaaGreatDoorJnRbl
import Derived.Test.YtdgolaaheakfoaaGreatDoorJnRbi
import Derived.BigRegion
import Derived.Deep.DeepCutAuto
import Derived.Test.YtdgolaaheakfoaaGreatDoorJnRbk
import Derived.Shelf.Abstract
namespace Go.Proofs.YtdgolaaheakfoaaGreatDoor.ctr
open Go.RowKit
set_option linter.unusedSimpArgs false
theorem fourR {W : World} {b : Nat} {v0 v1 v2 v3 : Value} {t : TypeId} (h : ∀ x : Later W, Blk x.w b #[v0, v1, v2, v3] t) : (∀ x : Later W, x.w.cell? ⟨b, 0, none⟩ = some v0) ∧ (∀ x : Later W, x.w.cell? ⟨b, 1, none⟩ = some v1) ∧ (∀ x : Later W, x.w.cell? ⟨b, 2, none⟩ = some v2) ∧ (∀ x : Later W, x.w.cell? ⟨b, 3, none⟩ = some v3) ∧ (∀ x : Later W, x.w.frozen? ⟨b, 0, none⟩ = false) ∧ (∀ x : Later W, x.w.frozen? ⟨b, 1, none⟩ = false) ∧ (∀ x : Later W, x.w.frozen? ⟨b, 2, none⟩ = false) ∧ ∀ x : Later W, x.w.frozen? ⟨b, 3, none⟩ = false :=
  ⟨fun x => (h x).cell 0 rfl, fun x => (h x).cell 1 rfl, fun x => (h x).cell 2 rfl, fun x => (h x).cell 3 rfl, fun x => (h x).thaw 0, fun x => (h x).thaw 1, fun x => (h x).thaw 2, fun x => (h x).thaw 3⟩
theorem blk_put4 {w : World} {b : Nat} {u0 u1 u2 u3 v0 v1 v2 v3 : Value} {t : TypeId} (h : Blk w b #[u0, u1, u2, u3] t) : Blk ((((w.setCell ⟨b, 0, none⟩ v0).setCell ⟨b, 1, none⟩ v1).setCell ⟨b, 2, none⟩ v2).setCell ⟨b, 3, none⟩ v3) b #[v0, v1, v2, v3] t := (((h.set 0 v0).set 1 v1).set 2 v2).set 3 v3
theorem below_four {V w : World} {b : Nat} {v0 v1 v2 v3 : Value} (h : Below V.heap.size V w) (hb : V.heap.size ≤ b) : Below V.heap.size V ((((w.setCell ⟨b, 0, none⟩ v0).setCell ⟨b, 1, none⟩ v1).setCell ⟨b, 2, none⟩ v2).setCell ⟨b, 3, none⟩ v3) := below_store (below_store (below_store (below_store h _ hb) _ hb) _ hb) _ hb
set_option maxHeartbeats 4000000 in
theorem implRunOn (v u : Value) (r s : Rgm) (n : Int) (w : World) (h : GRow w v r) (g : GRow w u s) (hR : regimeB r = true) (hS : regimeB s = true) (r1 : r.fr ≤ n) (r2 : n ≤ r.to) (s1 : s.fr ≤ n) (s2 : n ≤ s.to) (hT : Tab w) : Calls Tryz.prog 64 #[v, u, .int .i64 n] w fun e w' => e = .returned (.tuple #[qdV (runQ r s n), .bool (runB r s n)]) ∧ Below w.heap.size w w' := by
  have hG := h
  have hU := g
  obtain ⟨a1, c1, a2, c2, a3, c3, rfl⟩ := h.parts
  obtain ⟨b1, d1, b2, d2, b3, d3, rfl⟩ := g.parts
  obtain ⟨W1, hW1, HR, HZ, HB1⟩ := boxR w #[.string r.name, .int .i64 r.fr, .int .i64 r.to, .slice a1 r.segs.length c1, .slice a2 r.pats.length c2, .slice a3 r.rgns.length c3, .int .i64 r.rule] 40 #[.string s.name, .int .i64 s.fr, .int .i64 s.to, .slice b1 s.segs.length d1, .slice b2 s.pats.length d2, .slice b3 s.rgns.length d3, .int .i64 s.rule] 40
  obtain ⟨W0, hW0, HC, HB2⟩ : ∃ W0, W0 = W1.alloc (.cells #[.int .i64 0, .int .i64 0, .int .i64 0, .int .i64 0] 103) ∧ (∀ x : Later W0, Blk x.w W1.heap.size #[.int .i64 0, .int .i64 0, .int .i64 0, .int .i64 0] 103) ∧ ∀ x : Later W0, Below W1.heap.size W1 x.w := ⟨_, rfl, fun x => (Blk.new _ _ _).later x, fun x => below_alloc x.below⟩
  have hsz1 : W1.heap.size = w.heap.size + 1 + 1 := by rw [hW1, World.size_alloc, World.size_alloc]
  rw [hsz1] at HC
  have hBl : ∀ x : Later W0, Below w.heap.size w x.w := fun x => HB1.out ⟨x.w, HB2 x⟩
  obtain ⟨k0, k1, k2, k3, k4, k5, k6⟩ := sevenL HR.out
  obtain ⟨l0, l1, l2, l3, l4, l5, l6⟩ := sevenL HZ.out
  have e0 : ∀ x : Later W0, x.w.cell? ⟨w.heap.size, 0, none⟩ = _ := fun x => k0 ⟨x.w, HB2 x⟩
  have e1 : ∀ x : Later W0, x.w.cell? ⟨w.heap.size, 1, none⟩ = _ := fun x => k1 ⟨x.w, HB2 x⟩
  have e2 : ∀ x : Later W0, x.w.cell? ⟨w.heap.size, 2, none⟩ = _ := fun x => k2 ⟨x.w, HB2 x⟩
  have e3 : ∀ x : Later W0, x.w.cell? ⟨w.heap.size, 3, none⟩ = _ := fun x => k3 ⟨x.w, HB2 x⟩
  have e4 : ∀ x : Later W0, x.w.cell? ⟨w.heap.size, 4, none⟩ = _ := fun x => k4 ⟨x.w, HB2 x⟩
  have e5 : ∀ x : Later W0, x.w.cell? ⟨w.heap.size, 5, none⟩ = _ := fun x => k5 ⟨x.w, HB2 x⟩
  have e6 : ∀ x : Later W0, x.w.cell? ⟨w.heap.size, 6, none⟩ = _ := fun x => k6 ⟨x.w, HB2 x⟩
  have f0 : ∀ x : Later W0, x.w.cell? ⟨w.heap.size + 1, 0, none⟩ = _ := fun x => l0 ⟨x.w, HB2 x⟩
  have f1 : ∀ x : Later W0, x.w.cell? ⟨w.heap.size + 1, 1, none⟩ = _ := fun x => l1 ⟨x.w, HB2 x⟩
  have f2 : ∀ x : Later W0, x.w.cell? ⟨w.heap.size + 1, 2, none⟩ = _ := fun x => l2 ⟨x.w, HB2 x⟩
  have f3 : ∀ x : Later W0, x.w.cell? ⟨w.heap.size + 1, 3, none⟩ = _ := fun x => l3 ⟨x.w, HB2 x⟩
  have f4 : ∀ x : Later W0, x.w.cell? ⟨w.heap.size + 1, 4, none⟩ = _ := fun x => l4 ⟨x.w, HB2 x⟩
  have f5 : ∀ x : Later W0, x.w.cell? ⟨w.heap.size + 1, 5, none⟩ = _ := fun x => l5 ⟨x.w, HB2 x⟩
  have f6 : ∀ x : Later W0, x.w.cell? ⟨w.heap.size + 1, 6, none⟩ = _ := fun x => l6 ⟨x.w, HB2 x⟩
  have KA : ∀ x : Later W0, Calls Tryz.prog 112 #[.agg #[.string r.name, .int .i64 r.fr, .int .i64 r.to, .slice a1 r.segs.length c1, .slice a2 r.pats.length c2, .slice a3 r.rgns.length c3, .int .i64 r.rule], .int .i64 n] x.w fun e w' => e = .returned (.tuple #[.int .i64 (shI r n), .bool (shB r n)]) ∧ Below x.w.heap.size x.w w' := fun x => by
    have k := implShiftOn _ r n x.w (hG.below (hBl x)) hR r1 r2 (hT.later (hBl x))
    rw [shift_eq] at k
    exact k
  have KB : ∀ x : Later W0, Calls Tryz.prog 112 #[.agg #[.string s.name, .int .i64 s.fr, .int .i64 s.to, .slice b1 s.segs.length d1, .slice b2 s.pats.length d2, .slice b3 s.rgns.length d3, .int .i64 s.rule], .int .i64 n] x.w fun e w' => e = .returned (.tuple #[.int .i64 (shI s n), .bool (shB s n)]) ∧ Below x.w.heap.size x.w w' := fun x => by
    have k := implShiftOn _ s n x.w (hU.below (hBl x)) hS s1 s2 (hT.later (hBl x))
    rw [shift_eq] at k
    exact k
  have HW1 := hideP hW1
  have HW0 := hideP hW0
  have HBl := hideP hBl
  have HC' := hideP HC
  unfold runQ runB
  generalize shI r n = x1 at *
  generalize shI s n = x2 at *
  generalize shB r n = o1 at *
  generalize shB s n = o2 at *
  clear hW0 hW1 hBl HB1 HB2 HR HZ HC k0 k1 k2 k3 k4 k5 k6 l0 l1 l2 l3 l4 l5 l6 hG hU h g hR hS r1 r2 s1 s2 hT
  cases o1 <;> cases o2 <;>
  · go_enter Tryz.func64, Tryz.ntmps64
    go_wp2_with fail
    rw [← HW1.out, ← HW0.out]
    refine (KA ⟨W0, Below.refl _ _⟩).mono ?_
    rintro e w1 ⟨rfl, hb⟩
    obtain ⟨y1, rfl⟩ := Later.of hb
    clear hb
    go_wp2_with fail
    refine (KB y1).mono ?_
    rintro e w2 ⟨rfl, hb⟩
    obtain ⟨y2, rfl⟩ := y1.next hb
    clear hb
    obtain ⟨z0, z1, z2, z3, t0, t1, t2, t3⟩ := fourR HC'.out
    have c0 := z0 y2
    have c1 := z1 y2
    have c2 := z2 y2
    have c3 := z3 y2
    have g0 := t0 y2
    have g1 := t1 y2
    have g2 := t2 y2
    have g3 := t3 y2
    go_wp2
    obtain ⟨W9, e9⟩ : ∃ W9, W9 = (((y2.w.setCell ⟨w.heap.size + 1 + 1, 0, none⟩ (.int .i64 n)).setCell ⟨w.heap.size + 1 + 1, 1, none⟩ (.int .i64 n)).setCell ⟨w.heap.size + 1 + 1, 2, none⟩ (.int .i64 x1)).setCell ⟨w.heap.size + 1 + 1, 3, none⟩ (.int .i64 x2) := ⟨_, rfl⟩
    have Z9 : Blk W9 (w.heap.size + 1 + 1) #[.int .i64 n, .int .i64 n, .int .i64 x1, .int .i64 x2] 103 := by rw [e9]; exact blk_put4 (HC'.out y2)
    have B9 : Below w.heap.size w W9 := by rw [e9]; exact below_four (HBl.out y2) (by omega)
    rw [← e9]
    clear e9
    have q0 := Z9.cell 0 rfl
    have q1 := Z9.cell 1 rfl
    have q2 := Z9.cell 2 rfl
    have q3 := Z9.cell 3 rfl
    exact bodyPost_ret (by simp [results, Tryz.results64, go_sem, q0, q1, q2, q3]; try rfl) rfl ⟨rfl, B9⟩
set_option maxHeartbeats 4000000 in
theorem implJoinRuns (p q : Qd) (w : World) (h1 : -1000000000 ≤ p.b) (h2 : p.b ≤ 1000000000) : Calls Tryz.prog 66 #[qdV p, qdV q] w fun e w' => e = .returned (.tuple #[qdV (joinQ p q), .bool (joinB p q)]) ∧ Below w.heap.size w w' := by
  obtain ⟨a, b, c, d⟩ := p
  obtain ⟨x, y, z, u⟩ := q
  dsimp only at h1 h2
  show Calls Tryz.prog 66 #[.agg #[.int .i64 a, .int .i64 b, .int .i64 c, .int .i64 d], .agg #[.int .i64 x, .int .i64 y, .int .i64 z, .int .i64 u]] w fun e w' => e = .returned (.tuple #[.agg #[.int .i64 a, .int .i64 y, .int .i64 c, .int .i64 d], .bool (x == b + 1 && (z == c && u == d))]) ∧ Below w.heap.size w w'
  obtain ⟨W1, hW1, hD', hR', hB1'⟩ := boxR w #[.int .i64 a, .int .i64 b, .int .i64 c, .int .i64 d] 103 #[.int .i64 x, .int .i64 y, .int .i64 z, .int .i64 u] 103
  obtain ⟨W0, hW0, hC', hJ', hB2'⟩ := boxR W1 #[.int .i64 0, .int .i64 0, .int .i64 0, .int .i64 0] 103 #[.int .i64 a, .int .i64 y, .int .i64 c, .int .i64 d] 103
  have hD := hD'.out
  have hR := hR'.out
  have hB1 := hB1'.out
  have hC := hC'.out
  have hJ := hJ'.out
  have hB2 := hB2'.out
  clear hD' hR' hB1' hC' hJ' hB2'
  have hsz1 : W1.heap.size = w.heap.size + 1 + 1 := by rw [hW1, World.size_alloc, World.size_alloc]
  rw [hsz1] at hC hJ
  have XX : Blk W0 w.heap.size _ _ := hD ⟨W0, hB2 ⟨W0, Below.refl _ _⟩⟩
  have YY : Blk W0 (w.heap.size + 1) _ _ := hR ⟨W0, hB2 ⟨W0, Below.refl _ _⟩⟩
  have CC := hC ⟨W0, Below.refl _ _⟩
  have JJ := hJ ⟨W0, Below.refl _ _⟩
  have hBl : Below w.heap.size w W0 := hB1 ⟨W0, hB2 ⟨W0, Below.refl _ _⟩⟩
  have x0 := XX.cell 0 rfl
  have x1 := XX.cell 1 rfl
  have x2 := XX.cell 2 rfl
  have x3 := XX.cell 3 rfl
  have y0 := YY.cell 0 rfl
  have y1 := YY.cell 1 rfl
  have y2 := YY.cell 2 rfl
  have y3 := YY.cell 3 rfl
  have c0 := CC.cell 0 rfl
  have c1 := CC.cell 1 rfl
  have c2 := CC.cell 2 rfl
  have c3 := CC.cell 3 rfl
  have t0 := CC.thaw 0
  have t1 := CC.thaw 1
  have t2 := CC.thaw 2
  have t3 := CC.thaw 3
  have j0 := JJ.cell 0 rfl
  have j1 := JJ.cell 1 rfl
  have j2 := JJ.cell 2 rfl
  have j3 := JJ.cell 3 rfl
  have HC := hideP CC
  have HBl := hideP hBl
  have HW1 := hideP hW1
  have HW0 := hideP hW0
  dsimp only at c0 c1 c2 c3 t0 t1 t2 t3 j0 j1 j2 j3
  clear hD hR hB1 hC hJ hB2 hsz1 XX YY CC JJ hBl hW1 hW0
  have key : ∀ ok : Bool, (x == b + 1 && (z == c && u == d)) = ok → Calls Tryz.prog 66 #[.agg #[.int .i64 a, .int .i64 b, .int .i64 c, .int .i64 d], .agg #[.int .i64 x, .int .i64 y, .int .i64 z, .int .i64 u]] w fun e w' => e = .returned (.tuple #[.agg #[.int .i64 a, .int .i64 y, .int .i64 c, .int .i64 d], .bool ok]) ∧ Below w.heap.size w w' := by
    intro ok hok
    by_cases k1 : x = b + 1
    case neg =>
      have k1' : (x == b + 1) = false := by simpa using k1
      rw [k1'] at hok
      subst hok
      go_enter Tryz.func66, Tryz.ntmps66
      go_upto_region 2 with fail
      rw [← HW1.out, ← HW0.out]
      go_region
      obtain ⟨W9, e9⟩ : ∃ W9, W9 = ((((W0.setCell ⟨w.heap.size + 1 + 1, 0, none⟩ (.int .i64 a)).setCell ⟨w.heap.size + 1 + 1, 1, none⟩ (.int .i64 y)).setCell ⟨w.heap.size + 1 + 1, 2, none⟩ (.int .i64 c)).setCell ⟨w.heap.size + 1 + 1, 3, none⟩ (.int .i64 d)).drew := ⟨_, rfl⟩
      have Z9 : Blk W9 (w.heap.size + 1 + 1) #[.int .i64 a, .int .i64 y, .int .i64 c, .int .i64 d] 103 := by rw [e9]; exact (blk_put4 HC.out).drew
      have B9 : Below w.heap.size w W9 := by rw [e9]; exact (below_four HBl.out (by omega)).drew
      rw [← e9]
      clear e9
      have q0 := Z9.cell 0 rfl
      have q1 := Z9.cell 1 rfl
      have q2 := Z9.cell 2 rfl
      have q3 := Z9.cell 3 rfl
      go_wp2
      exact bodyPost_ret (by simp [results, Tryz.results66, go_sem, q0, q1, q2, q3]; try rfl) rfl ⟨rfl, B9⟩
    have k1' : (x == b + 1) = true := by simpa using k1
    clear k1
    by_cases k2 : z = c
    case neg =>
      have k2' : (z == c) = false := by simpa using k2
      rw [k1', k2'] at hok
      subst hok
      go_enter Tryz.func66, Tryz.ntmps66
      go_upto_region 2 with fail
      rw [← HW1.out, ← HW0.out]
      go_region
      obtain ⟨W9, e9⟩ : ∃ W9, W9 = ((((W0.setCell ⟨w.heap.size + 1 + 1, 0, none⟩ (.int .i64 a)).setCell ⟨w.heap.size + 1 + 1, 1, none⟩ (.int .i64 y)).setCell ⟨w.heap.size + 1 + 1, 2, none⟩ (.int .i64 c)).setCell ⟨w.heap.size + 1 + 1, 3, none⟩ (.int .i64 d)).drew := ⟨_, rfl⟩
      have Z9 : Blk W9 (w.heap.size + 1 + 1) #[.int .i64 a, .int .i64 y, .int .i64 c, .int .i64 d] 103 := by rw [e9]; exact (blk_put4 HC.out).drew
      have B9 : Below w.heap.size w W9 := by rw [e9]; exact (below_four HBl.out (by omega)).drew
      rw [← e9]
      clear e9
      have q0 := Z9.cell 0 rfl
      have q1 := Z9.cell 1 rfl
      have q2 := Z9.cell 2 rfl
      have q3 := Z9.cell 3 rfl
      go_wp2
      exact bodyPost_ret (by simp [results, Tryz.results66, go_sem, q0, q1, q2, q3]; try rfl) rfl ⟨rfl, B9⟩
    have k2' : (z == c) = true := by simpa using k2
    clear k2
    by_cases k3 : u = d
    case neg =>
      have k3' : (u == d) = false := by simpa using k3
      rw [k1', k2', k3'] at hok
      subst hok
      go_enter Tryz.func66, Tryz.ntmps66
      go_upto_region 2 with fail
      rw [← HW1.out, ← HW0.out]
      go_region
      obtain ⟨W9, e9⟩ : ∃ W9, W9 = ((((W0.setCell ⟨w.heap.size + 1 + 1, 0, none⟩ (.int .i64 a)).setCell ⟨w.heap.size + 1 + 1, 1, none⟩ (.int .i64 y)).setCell ⟨w.heap.size + 1 + 1, 2, none⟩ (.int .i64 c)).setCell ⟨w.heap.size + 1 + 1, 3, none⟩ (.int .i64 d)).drew := ⟨_, rfl⟩
      have Z9 : Blk W9 (w.heap.size + 1 + 1) #[.int .i64 a, .int .i64 y, .int .i64 c, .int .i64 d] 103 := by rw [e9]; exact (blk_put4 HC.out).drew
      have B9 : Below w.heap.size w W9 := by rw [e9]; exact (below_four HBl.out (by omega)).drew
      rw [← e9]
      clear e9
      have q0 := Z9.cell 0 rfl
      have q1 := Z9.cell 1 rfl
      have q2 := Z9.cell 2 rfl
      have q3 := Z9.cell 3 rfl
      go_wp2
      exact bodyPost_ret (by simp [results, Tryz.results66, go_sem, q0, q1, q2, q3]; try rfl) rfl ⟨rfl, B9⟩
    case pos =>
      have k3' : (u == d) = true := by simpa using k3
      clear k3
      rw [k1', k2', k3'] at hok
      subst hok
      go_enter Tryz.func66, Tryz.ntmps66
      go_upto_region 2 with fail
      rw [← HW1.out, ← HW0.out]
      go_region
      obtain ⟨W9, e9⟩ : ∃ W9, W9 = ((((W0.setCell ⟨w.heap.size + 1 + 1, 0, none⟩ (.int .i64 a)).setCell ⟨w.heap.size + 1 + 1, 1, none⟩ (.int .i64 y)).setCell ⟨w.heap.size + 1 + 1, 2, none⟩ (.int .i64 c)).setCell ⟨w.heap.size + 1 + 1, 3, none⟩ (.int .i64 d)).drew := ⟨_, rfl⟩
      have Z9 : Blk W9 (w.heap.size + 1 + 1) #[.int .i64 a, .int .i64 y, .int .i64 c, .int .i64 d] 103 := by rw [e9]; exact (blk_put4 HC.out).drew
      have B9 : Below w.heap.size w W9 := by rw [e9]; exact (below_four HBl.out (by omega)).drew
      rw [← e9]
      clear e9
      have q0 := Z9.cell 0 rfl
      have q1 := Z9.cell 1 rfl
      have q2 := Z9.cell 2 rfl
      have q3 := Z9.cell 3 rfl
      go_wp2
      exact bodyPost_ret (by simp [results, Tryz.results66, go_sem, q0, q1, q2, q3]; try rfl) rfl ⟨rfl, B9⟩
  exact key _ rfl
end Go.Proofs.YtdgolaaheakfoaaGreatDoor.ctr
namespace Go.Proofs.YtdgolaaheakfoaaGreatDoor.ctr
open Go.RowKit
set_option maxRecDepth 100000 in
set_option maxHeartbeats 8000000 in
theorem specConcord (v u : Value) (r s : Rgm) (f t : Int) (w : World) (h : GRow w v r) (g : GRow w u s) (hf : -9223372036854775808 ≤ r.fr) (ht : r.to ≤ 9223372036854775807) (gf : -9223372036854775808 ≤ s.fr) (gt : s.to ≤ 9223372036854775807) : Calls Tryz.prog 25 #[v, u, .int .i64 f, .int .i64 t] w fun e w' => ∃ o, e = .returned o ∧ QMov w w' o (runsL r s f t) ∧ Below w.heap.size w w' := by
  obtain ⟨i0, hi, hz0, hz1, hz2⟩ := info_parts info_run
  have hG := h
  have hU := g
  obtain ⟨a1, c1, a2, c2, a3, c3, rfl⟩ := h.parts
  obtain ⟨b1, d1, b2, d2, b3, d3, rfl⟩ := g.parts
  obtain ⟨W0, e0, HR, HZ, HB⟩ := boxR w #[.string r.name, .int .i64 r.fr, .int .i64 r.to, .slice a1 r.segs.length c1, .slice a2 r.pats.length c2, .slice a3 r.rgns.length c3, .int .i64 r.rule] 40 #[.string s.name, .int .i64 s.fr, .int .i64 s.to, .slice b1 s.segs.length d1, .slice b2 s.pats.length d2, .slice b3 s.rgns.length d3, .int .i64 s.rule] 40
  obtain ⟨r0, r1, r2, r3, r4, r5, r6⟩ := sevenL HR.out
  obtain ⟨u0, u1, u2, u3, u4, u5, u6⟩ := sevenL HZ.out
  have E0 := hideP e0
  have KP : ∀ y : Later W0, Calls Tryz.prog 47 #[.agg #[.string r.name, .int .i64 r.fr, .int .i64 r.to, .slice a1 r.segs.length c1, .slice a2 r.pats.length c2, .slice a3 r.rgns.length c3, .int .i64 r.rule], .agg #[.string s.name, .int .i64 s.fr, .int .i64 s.to, .slice b1 s.segs.length d1, .slice b2 s.pats.length d2, .slice b3 s.rgns.length d3, .int .i64 s.rule], .int .i64 f, .int .i64 t] y.w fun e w' => e = .returned (.bool (regimeB r && (regimeB s && spanB f t))) ∧ Below y.w.heap.size y.w w' := fun y => specSpan14 _ _ r s f t y.w (hG.below (HB.out y)) (hU.below (HB.out y)) hf ht gf gt
  have KA : ∀ (n : Int) W, Below W0.heap.size W0 W → Calls Tryz.prog 63 #[.agg #[.string r.name, .int .i64 r.fr, .int .i64 r.to, .slice a1 r.segs.length c1, .slice a2 r.pats.length c2, .slice a3 r.rgns.length c3, .int .i64 r.rule], .int .i64 n] W fun e w' => e = .returned (.tuple #[.int .i64 (shI r n), .bool (shB r n)]) ∧ Below W.heap.size W w' := fun n W hb => by
    have k := specShift _ r n W (hG.below (HB.out ⟨W, hb⟩)) hf ht
    rw [shift_eq] at k
    exact k
  have KB : ∀ (n : Int) W, Below W0.heap.size W0 W → Calls Tryz.prog 63 #[.agg #[.string s.name, .int .i64 s.fr, .int .i64 s.to, .slice b1 s.segs.length d1, .slice b2 s.pats.length d2, .slice b3 s.rgns.length d3, .int .i64 s.rule], .int .i64 n] W fun e w' => e = .returned (.tuple #[.int .i64 (shI s n), .bool (shB s n)]) ∧ Below W.heap.size W w' := fun n W hb => by
    have k := specShift _ s n W (hU.below (HB.out ⟨W, hb⟩)) gf gt
    rw [shift_eq] at k
    exact k
  have HB0 : Hid (Below w.heap.size w W0) := HB.out ⟨W0, Below.refl _ _⟩
  have S0 : Hid (QSt 103 W0 (.slice (some ⟨W0.heap.size, 0, none⟩) 0 0) [] (W0.alloc (.cells #[] 103))) := QSt.empty _ _
  obtain ⟨xE, hxE⟩ : ∃ xE : Later W0, W0.alloc (.cells #[] 103) = xE.w := ⟨⟨_, S0.out.below⟩, rfl⟩
  have HxE := hideP hxE
  rw [hxE] at S0
  clear hxE
  have HSz : Hid (w.heap.size + 1 + 1 = W0.heap.size) := by unfold Hid; rw [E0.out, World.size_alloc, World.size_alloc]
  clear e0 hG h hU g ht gt hf gf HR HZ
  by_cases hsp : regimeB r = true ∧ regimeB s = true ∧ spanB f t = true
  case neg =>
    have hno : (regimeB r && (regimeB s && spanB f t)) = false := by
      cases q1 : regimeB r
      · rfl
      · cases q2 : regimeB s
        · rfl
        · cases q3 : spanB f t
          · rfl
          · exact absurd ⟨q1, q2, q3⟩ hsp
    rw [hno] at KP
    rw [show runsL r s f t = [] by unfold runsL; rw [if_neg hsp]]
    clear KA KB hsp hno
    go_enter Tryz.func25, Tryz.ntmps25
    go_upto_region 2 with fail
    rw [← E0.out, HxE.out]
    rw [HSz.out]
    go_wp2_with fail
    refine (KP xE).mono ?_
    rintro e w1 ⟨rfl, hb⟩
    have S1 := hideP (S0.out.later hb)
    clear hb
    go_wp2
    go_ret
    exact ⟨_, rfl, S1.out.done HB0.out⟩
  have hno : (regimeB r && (regimeB s && spanB f t)) = true := by rw [hsp.1, hsp.2.1, hsp.2.2]; rfl
  rw [hno] at KP
  rw [show runsL r s f t = foldQ ((daysWhere f t (runB r s)).map (runQ r s)) by unfold runsL; rw [if_pos hsp]]
  obtain ⟨n1, n2, n3, n4, n5⟩ := span_nums hsp.2.2
  have HBo : Hid (∀ n, runB r s n = (shB r n && shB s n)) := fun n => rfl
  have HQo : Hid (∀ n, runQ r s n = ⟨n, n, shI r n, shI s n⟩) := fun n => rfl
  clear hno hsp
  generalize runB r s = P at *
  generalize runQ r s = Q at *
  have HC : Hid (∀ (zs : List Int) (n : Int), DSet zs (Upto f P n) → t < n → (n ≤ t + 1 ∨ n = f) → zs = daysWhere f t P) := fun zs n p q q2 => upto_close p q q2
  have HO : Hid (DSet [] (Upto f P f)) := upto_open _ _
  have HH : Hid (∀ (zs : List Int) (n : Int), f ≤ n → P n = true → DSet zs (Upto f P n) → DSet (zs ++ [n]) (Upto f P (n + 1))) := fun zs n p p2 q => upto_hit p p2 q
  have HM : Hid (∀ (zs : List Int) (n : Int), P n = false → DSet zs (Upto f P n) → DSet zs (Upto f P (n + 1))) := fun zs n p q => upto_miss p q
  have HN : Hid (∀ (zs : List Int) (n : Int), DSet zs (Upto f P n) → n ≤ t → zs.length ≤ 1000) := fun zs n p q => by have := upto_len p; omega
  go_enter Tryz.func25, Tryz.ntmps25
  go_upto_region 2 with fail
  rw [← E0.out, HxE.out]
  rw [HSz.out]
  go_wp2_with fail
  refine (KP xE).mono ?_
  rintro e w1 ⟨rfl, hb⟩
  have S1 := hideP (S0.out.later hb)
  clear hb KP
  go_wp2_with fail
  go_loopw [9, 10, 11, 12, 13, 14, 15] (fun o i _ _ _ _ _ wr => ∃ (n : Int) (zs : List Int), i = .int .i64 n ∧ f ≤ n ∧ Hid (n ≤ t + 1 ∨ n = f) ∧ Hid (DSet zs (Upto f P n)) ∧ Hid (EndsIn (-1000000) 2000000 (foldQ (zs.map Q))) ∧ QSt 103 W0 o (foldQ (zs.map Q)) wr) (fun _ i _ _ _ _ _ _ => (t - intOf i + 1).toNat)
  case atStart => exact ⟨f, [], rfl, Int.le_refl _, .inr rfl, HO.out, (fun p hp => by simp [foldQ] at hp), S1.out⟩
  case round =>
    obtain ⟨n, zs, rfl, hn1, hn2, hDZ, hEn, hSt⟩ := hrel
    have Z := hideP hSt
    obtain ⟨y, rfl⟩ : ∃ y : Later W0, wr = y.w := ⟨⟨wr, hSt.below⟩, rfl⟩
    clear hSt S0 S1
    by_cases hle : n ≤ t
    case neg =>
      have HE : Hid (zs = daysWhere f t P) := HC.out zs n hDZ.out (by omega) hn2.out
      clear hDZ
      go_wp2
      go_ret
      rw [← HE.out]
      exact ⟨_, rfl, Z.out.done HB0.out⟩
    have hzl := HN.out zs n hDZ.out hle
    have HX : Hid (P n = true → DSet (zs ++ [n]) (Upto f P (n + 1))) := fun q => HH.out zs n hn1 q hDZ.out
    have HY : Hid (P n = false → DSet zs (Upto f P (n + 1))) := fun q => HM.out zs n q hDZ.out
    have HPn := hideP (HBo.out n)
    have HQn := hideP (HQo.out n)
    have K1 := KA n _ y.below
    have K2 := KB n
    have hll : (foldQ (zs.map Q)).length ≤ 1000 := Nat.le_trans (foldQ_len _) (by rw [List.length_map]; exact hzl)
    have HFd : Hid (foldQ ((zs ++ [n]).map Q) = runStep (foldQ (zs.map Q)) (Q n)) := by unfold Hid; rw [List.map_append]; exact foldQ_snoc _ _
    have HEn : Hid (EndsIn (-1000000) 2000000 (runStep (foldQ (zs.map Q)) (Q n))) := step_ends hEn.out (by rw [HQn.out]; dsimp only; omega)
    clear KA KB hDZ hn2 HBo HQo HC HO HH HM HN
    rw [HQn.out] at HFd HEn
    clear HQn
    generalize P n = pn at *
    generalize shI r n = x1 at *
    generalize shI s n = x2 at *
    generalize shB r n = o1 at *
    generalize shB s n = o2 at *
    have HK : Hid (∀ zs', foldQ (zs'.map Q) = foldQ (zs.map Q) → zs' = zs → True) := fun _ _ _ => trivial
    clear HK
    go_wp2_with fail
    refine K1.mono ?_
    rintro e w2 ⟨rfl, hb⟩
    obtain ⟨y1, rfl⟩ := y.next hb
    have Z1 := hideP (Z.out.later hb)
    clear hb K1 Z
    go_wp2_with fail
    refine (K2 _ y1.below).mono ?_
    rintro e w3 ⟨rfl, hb⟩
    have Z3 := hideP (Z1.out.later hb)
    clear hb K2 Z1
    cases o1
    · have HD := hideP (HY.out (by rw [HPn.out]; rfl))
      go_wp2
      exact ⟨⟨n + 1, zs, rfl, by omega, .inl (by omega), HD.out, hEn, Z3.out⟩, by simp [intOf]; omega⟩
    cases o2
    · have HD := hideP (HY.out (by rw [HPn.out]; rfl))
      go_wp2
      exact ⟨⟨n + 1, zs, rfl, by omega, .inl (by omega), HD.out, hEn, Z3.out⟩, by simp [intOf]; omega⟩
    have HD := hideP (HX.out (by rw [HPn.out]; rfl))
    clear HX HY HPn
    generalize hL : foldQ (zs.map Q) = L at *
    clear hL
    by_cases h0 : 0 < L.length
    case neg =>
      have hL0 : L = [] := List.eq_nil_of_length_eq_zero (by omega)
      subst hL0
      have HS : Hid (runStep [] (⟨n, n, x1, x2⟩ : Qd) = [] ++ [⟨n, n, x1, x2⟩]) := step_new (fun h => by simp at h)
      rw [HS.out] at HFd HEn
      obtain ⟨ad, cap, rfl⟩ := Z3.out.val
      go_wp2_with (at_builtin; refine wpList_append_own _ rfl _ _ 61 rfl W0.heap.size 103 i0 (.agg #[.int .i64 0, .int .i64 0, .int .i64 0, .int .i64 0]) 4 32 Tryz.underlying61 hi hz0 hz1 hz2 rfl (by decide) _ _ _ rfl (Z3.out.row.alloc _) ⟨w3.heap.size, 0, none⟩ 1 1 [.int .i64 n, .int .i64 n, .int .i64 x1, .int .i64 x2] rfl rfl (cells_quad _ _ _ _ _ _ rfl) (by simp [Value.oneCell']) (by unfold maxLen; omega) (by omega) (by have := Z3.out.below.size; rw [inew]; omega) ?_; intro v' w9 hown' hgrow _)
      exact ⟨⟨n + 1, zs ++ [n], rfl, by omega, .inl (by omega), HD.out, by rw [HFd.out]; exact HEn.out, by rw [HFd.out]; exact Z3.out.app ⟨n, n, x1, x2⟩ hown' hgrow⟩, by simp [intOf]; omega⟩
    obtain ⟨g, cap, rfl⟩ := Z3.out.form h0
    obtain ⟨m, hm⟩ : ∃ m, L.length = m + 1 := ⟨L.length - 1, by omega⟩
    have hle := last_ends hEn.out h0
    obtain ⟨hc, hz⟩ := Z3.out.cellA (k := m) (by omega)
    obtain ⟨e0, e1, e2, e3⟩ := hc.quad
    have hgt : atK qdK L m = L.getD (L.length - 1) ⟨0, 0, 0, 0⟩ := by rw [hm]; rfl
    rw [hgt] at e0 e1 e2 e3
    have HSJ : Hid (joinB (L.getD (L.length - 1) ⟨0, 0, 0, 0⟩) ⟨n, n, x1, x2⟩ = true → runStep L ⟨n, n, x1, x2⟩ = L.set m (joinQ (L.getD (L.length - 1) ⟨0, 0, 0, 0⟩) ⟨n, n, x1, x2⟩)) := fun q => by rw [step_join h0 q, hm]; rfl
    have HSN : Hid (joinB (L.getD (L.length - 1) ⟨0, 0, 0, 0⟩) ⟨n, n, x1, x2⟩ = false → runStep L ⟨n, n, x1, x2⟩ = L ++ [⟨n, n, x1, x2⟩]) := fun q => step_new fun _ => q
    have HSe : Hid (QSt 103 W0 (.slice (some ⟨g, 0, none⟩) L.length cap) (L.set m (joinQ (L.getD (L.length - 1) ⟨0, 0, 0, 0⟩) ⟨n, n, x1, x2⟩)) (w3.setCell ⟨g, m * 4 + 1, none⟩ (.int .i64 n))) := by
      have h := Z3.out.setB (k := m) (by omega) n
      have e : L.getD m ⟨0, 0, 0, 0⟩ = L.getD (L.length - 1) ⟨0, 0, 0, 0⟩ := by rw [hm]; rfl
      rw [e] at h
      exact h
    have z1 := hz (m * 4 + 1)
    clear hc hz hgt
    generalize L.getD (L.length - 1) ⟨0, 0, 0, 0⟩ = p at *
    obtain ⟨pa, pb, pc, pd⟩ := p
    dsimp only at e0 e1 e2 e3 hle
    have hmb : m ≤ 1000 := by omega
    have Z3m : Hid (QSt 103 W0 (.slice (some ⟨g, 0, none⟩) (m + 1) cap) L w3) := by
      have h := Z3.out
      rw [hm] at h
      exact h
    by_cases c1 : pb = n - 1
    case neg =>
      have c1' : (pb == n - 1) = false := by simpa using c1
      have HS := hideP (HSN.out (by
        have : (n == pb + 1) = false := by simpa using (show ¬ n = pb + 1 by omega)
        show (n == pb + 1 && (x1 == pc && x2 == pd)) = false
        rw [this]; rfl))
      clear HSJ HSN HSe z1 c1
      rw [HS.out] at HFd HEn
      go_wp2_with (at_builtin; refine wpList_append_own _ rfl _ _ 61 rfl W0.heap.size 103 i0 (.agg #[.int .i64 0, .int .i64 0, .int .i64 0, .int .i64 0]) 4 32 Tryz.underlying61 hi hz0 hz1 hz2 rfl (by decide) _ _ _ rfl (Z3m.out.row.alloc _) ⟨w3.heap.size, 0, none⟩ 1 1 [.int .i64 n, .int .i64 n, .int .i64 x1, .int .i64 x2] rfl rfl (cells_quad _ _ _ _ _ _ rfl) (by simp [Value.oneCell']) (by unfold maxLen; omega) (by omega) (by have := Z3m.out.below.size; rw [inew]; omega) ?_; intro v' w9 hown' hgrow _)
      exact ⟨⟨n + 1, zs ++ [n], rfl, by omega, .inl (by omega), HD.out, by rw [HFd.out]; exact HEn.out, by rw [HFd.out]; exact Z3m.out.app ⟨n, n, x1, x2⟩ hown' hgrow⟩, by simp [intOf]; omega⟩
    have c1' : (pb == n - 1) = true := by simpa using c1
    have j1 : (n == pb + 1) = true := by simpa using (show n = pb + 1 by omega)
    by_cases c2 : pc = x1
    case neg =>
      have c2' : (pc == x1) = false := by simpa using c2
      have HS := hideP (HSN.out (by
        have : (x1 == pc) = false := by simpa using (fun e => c2 e.symm)
        show (n == pb + 1 && (x1 == pc && x2 == pd)) = false
        rw [j1, this]; rfl))
      clear HSJ HSN HSe z1 c1 c2 j1
      rw [HS.out] at HFd HEn
      go_wp2_with (at_builtin; refine wpList_append_own _ rfl _ _ 61 rfl W0.heap.size 103 i0 (.agg #[.int .i64 0, .int .i64 0, .int .i64 0, .int .i64 0]) 4 32 Tryz.underlying61 hi hz0 hz1 hz2 rfl (by decide) _ _ _ rfl (Z3m.out.row.alloc _) ⟨w3.heap.size, 0, none⟩ 1 1 [.int .i64 n, .int .i64 n, .int .i64 x1, .int .i64 x2] rfl rfl (cells_quad _ _ _ _ _ _ rfl) (by simp [Value.oneCell']) (by unfold maxLen; omega) (by omega) (by have := Z3m.out.below.size; rw [inew]; omega) ?_; intro v' w9 hown' hgrow _)
      exact ⟨⟨n + 1, zs ++ [n], rfl, by omega, .inl (by omega), HD.out, by rw [HFd.out]; exact HEn.out, by rw [HFd.out]; exact Z3m.out.app ⟨n, n, x1, x2⟩ hown' hgrow⟩, by simp [intOf]; omega⟩
    have c2' : (pc == x1) = true := by simpa using c2
    have j2 : (x1 == pc) = true := by simpa using c2.symm
    by_cases c3 : pd = x2
    case neg =>
      have c3' : (pd == x2) = false := by simpa using c3
      have HS := hideP (HSN.out (by
        have : (x2 == pd) = false := by simpa using (fun e => c3 e.symm)
        show (n == pb + 1 && (x1 == pc && x2 == pd)) = false
        rw [j1, j2, this]; rfl))
      clear HSJ HSN HSe z1 c1 c2 c3 j1 j2
      rw [HS.out] at HFd HEn
      go_wp2_with (at_builtin; refine wpList_append_own _ rfl _ _ 61 rfl W0.heap.size 103 i0 (.agg #[.int .i64 0, .int .i64 0, .int .i64 0, .int .i64 0]) 4 32 Tryz.underlying61 hi hz0 hz1 hz2 rfl (by decide) _ _ _ rfl (Z3m.out.row.alloc _) ⟨w3.heap.size, 0, none⟩ 1 1 [.int .i64 n, .int .i64 n, .int .i64 x1, .int .i64 x2] rfl rfl (cells_quad _ _ _ _ _ _ rfl) (by simp [Value.oneCell']) (by unfold maxLen; omega) (by omega) (by have := Z3m.out.below.size; rw [inew]; omega) ?_; intro v' w9 hown' hgrow _)
      exact ⟨⟨n + 1, zs ++ [n], rfl, by omega, .inl (by omega), HD.out, by rw [HFd.out]; exact HEn.out, by rw [HFd.out]; exact Z3m.out.app ⟨n, n, x1, x2⟩ hown' hgrow⟩, by simp [intOf]; omega⟩
    have c3' : (pd == x2) = true := by simpa using c3
    have j3 : (x2 == pd) = true := by simpa using c3.symm
    have HS := hideP (HSJ.out (by
      show (n == pb + 1 && (x1 == pc && x2 == pd)) = true
      rw [j1, j2, j3]; rfl))
    clear HSJ HSN c1 c2 c3 j1 j2 j3
    rw [HS.out] at HFd HEn
    go_wp2
    exact ⟨⟨n + 1, zs ++ [n], rfl, by omega, .inl (by omega), HD.out, by rw [HFd.out]; exact HEn.out, by rw [HFd.out]; have h := HSe.out; rw [hm] at h; exact h⟩, by simp [intOf]; omega⟩
end Go.Proofs.YtdgolaaheakfoaaGreatDoor.ctr
namespace Go.Proofs.YtdgolaaheakfoaaGreatDoor.ctr
open Go.RowKit
set_option linter.unusedSimpArgs false
theorem op_callV {P : Program} {ops : Array Oper} {Q : Exit → Act → World → Prop} {i : Nat} {o : Oper} {g : FuncId} {y : Operand} {xs : Array Operand} {ats : Array TypeId} {d : Tmp} {args : Array Value} {T : Value → World → Prop} {K : Act → World → Prop} {a : Act} {w : World} (hi : ops[i]? = some o) (ho : o.op = .call { callee := .value y, args := xs, argTypes := ats }) (hy : a.eval y = .func (.func g) #[] #[]) (hd : o.dst = some d) (hw : Region.wanted o (yielded ops a.tmps) = true)
    (ha : xs.map a.eval = args) (he : ∀ args w, (callFunc g args).run P w = .ok (.enter g args) w) (hc : Calls P g args w fun e w' => ∃ u, e = .returned u ∧ T u w') (h : ∀ u w', T u w' → K (a.put (some d) u) w') : wpOp P ops Q i K a w := by
  unfold wpOp
  simp only [hi, hw, if_true]
  left
  unfold Oper.wp
  have hx : execOp a.eval o = callFunc g args := by
    rw [← ha]
    simp [execOp, ho, resolve, invoke, hy, Deferred.ofValue]
  rw [hx, he]
  refine hc.mono ?_
  rintro e w' ⟨u, rfl, hT⟩
  rw [hd]
  exact h u w' hT
theorem foldQ_ends {a b : Int} {l : List Qd} (h : EndsIn a b l) : EndsIn a b (foldQ l) := by
  induction l using snoc_ind with
  | nil => exact fun p hp => by simp [foldQ] at hp
  | snoc l q ih =>
    rw [foldQ_snoc]
    exact step_ends (ih fun p hp => h p (List.mem_append_left _ hp)) (h q (by simp))
def put4b (w : World) (b : Nat) (v0 v1 v2 v3 : Value) : World := (((w.setCell ⟨b, 0, none⟩ v0).setCell ⟨b, 1, none⟩ v1).setCell ⟨b, 2, none⟩ v2).setCell ⟨b, 3, none⟩ v3
theorem blk_put4b {w : World} {b : Nat} {u0 u1 u2 u3 v0 v1 v2 v3 : Value} {t : TypeId} (h : Blk w b #[u0, u1, u2, u3] t) : Blk (put4b w b v0 v1 v2 v3) b #[v0, v1, v2, v3] t := blk_put4 h
theorem below_put4b {V w : World} {b : Nat} {v0 v1 v2 v3 : Value} (h : Below V.heap.size V w) (hb : V.heap.size ≤ b) : Below V.heap.size V (put4b w b v0 v1 v2 v3) := below_four h hb
theorem factsB {w : World} {b : Nat} {u0 u1 u2 u3 : Value} {t : TypeId} (h : Blk w b #[u0, u1, u2, u3] t) : w.cell? ⟨b, 0, none⟩ = some u0 ∧ w.cell? ⟨b, 1, none⟩ = some u1 ∧ w.cell? ⟨b, 2, none⟩ = some u2 ∧ w.cell? ⟨b, 3, none⟩ = some u3 ∧ w.frozen? ⟨b, 0, none⟩ = false ∧ w.frozen? ⟨b, 1, none⟩ = false ∧ w.frozen? ⟨b, 2, none⟩ = false ∧ w.frozen? ⟨b, 3, none⟩ = false :=
  ⟨h.cell 0 rfl, h.cell 1 rfl, h.cell 2 rfl, h.cell 3 rfl, h.thaw 0, h.thaw 1, h.thaw 2, h.thaw 3⟩
def needs : Nat → List Nat
  | 7 => [6]
  | 8 => [7]
  | 9 => [7]
  | _ => []
set_option maxRecDepth 100000 in
set_option maxHeartbeats 8000000 in
theorem implJoined (v : Value) (xs : List Qd) (w : World) (h : QRow w v xs) (hx : xs.length ≤ 2000) (hn : EndsIn (-1000000) 2000000 xs) : Calls Tryz.prog 65 #[v, .func (.func 66) #[] #[]] w fun e w' => ∃ o, e = .returned o ∧ QMov w w' o (foldQ xs) ∧ Below w.heap.size w w' := by
  obtain ⟨i0, hi, hz0, hz1, hz2⟩ := info_parts info_run
  obtain ⟨ad, cp, rfl, hc⟩ := h
  have HC := hideP hc
  have HEn : Hid (∀ k, EndsIn (-1000000) 2000000 (foldQ (xs.take k))) := fun k => foldQ_ends fun p hp => hn p (List.mem_of_mem_take hp)
  have HLn : Hid (∀ k, (foldQ (xs.take k)).length ≤ 2000) := fun k => Nat.le_trans (foldQ_len _) (by rw [List.length_take]; omega)
  have HSt : Hid (∀ k, k < xs.length → foldQ (xs.take (k + 1)) = runStep (foldQ (xs.take k)) (atK qdK xs k)) := fun k hk => by
    rw [List.take_succ_eq_append_getElem hk, foldQ_snoc, atK_eq hk]
  clear hc hn
  go_enter Tryz.func65, Tryz.ntmps65
  go_wp2_with fail
  go_loopw [5, 7, 8, 9, 10, 13] (fun o _ _ _ _ i wr => ∃ k : Nat, k ≤ xs.length ∧ i = .int .i64 (k : Int) ∧ QSt 103 w o (foldQ (xs.take k)) wr) (fun _ _ _ _ _ i _ => ((xs.length : Int) - intOf i).toNat)
  case atStart => exact ⟨0, Nat.zero_le _, rfl, QSt.nil _ _⟩
  case round =>
    obtain ⟨k, hk, rfl, hS⟩ := hrel
    have S := hideP hS
    clear hS
    by_cases hlt : (k : Int) < (xs.length : Int)
    case neg =>
      have hkn : k = xs.length := by omega
      have HE : Hid (foldQ (xs.take k) = foldQ xs) := by unfold Hid; rw [List.take_of_length_le (by omega)]
      go_wp2
      go_ret
      rw [← HE.out]
      exact ⟨_, rfl, S.out.done (Below.refl _ _)⟩
    have hkn : k < xs.length := by omega
    obtain ⟨gg, rfl, hgg, hcc⟩ := HC.out k hkn
    obtain ⟨a0, a1, a2, a3⟩ := (hcc.below S.out.below hgg).quad
    have HT := hideP (HSt.out k hkn)
    have hEn := HEn.out k
    have hLn := HLn.out k
    clear hcc HC HSt
    generalize atK qdK xs k = q at *
    generalize foldQ (xs.take k) = L at *
    obtain ⟨qa, qb, qc, qd⟩ := q
    dsimp only at a0 a1 a2 a3
    obtain ⟨ad, cap, hv⟩ := S.out.val
    subst hv
    have S1 := hideP (S.out.later ((Below.refl _ wr).alloc (Nat.le_refl _) (.cells #[.int .i64 qa, .int .i64 qb, .int .i64 qc, .int .i64 qd] 103)))
    by_cases h0 : 0 < L.length
    case neg =>
      have hd0 : decide (0 ≤ (L.length : Int) - 1) = false := decide_eq_false (by omega)
      have HS : Hid (runStep L ⟨qa, qb, qc, qd⟩ = L ++ [⟨qa, qb, qc, qd⟩]) := step_new (fun h => absurd h h0)
      go_wp2_with (at_builtin; refine wpList_append_own _ rfl _ _ 61 rfl w.heap.size 103 i0 (.agg #[.int .i64 0, .int .i64 0, .int .i64 0, .int .i64 0]) 4 32 Tryz.underlying61 hi hz0 hz1 hz2 rfl (by decide) _ _ _ rfl (S1.out.row.alloc _) ⟨wr.heap.size + 1, 0, none⟩ 1 1 [.int .i64 qa, .int .i64 qb, .int .i64 qc, .int .i64 qd] rfl rfl (cells_quad _ _ _ _ _ _ (inew _ _).symm) (by simp [Value.oneCell']) (by unfold maxLen; omega) (by omega) (by have := S1.out.below.size; rw [inew]; omega) ?_; intro v' w9 hown' hgrow _)
      refine ⟨⟨k + 1, by omega, by apply congrArg (Value.int .i64); omega, ?_⟩, by simp [intOf]; omega⟩
      rw [HT.out, HS.out]
      exact S1.out.app ⟨qa, qb, qc, qd⟩ hown' hgrow
    obtain ⟨g, cap', hv⟩ := S1.out.form h0
    cases hv
    obtain ⟨m, hm⟩ : ∃ m, L.length = m + 1 := ⟨L.length - 1, by omega⟩
    have hle := last_ends hEn h0
    have HSJ : Hid (joinB (L.getD (L.length - 1) ⟨0, 0, 0, 0⟩) ⟨qa, qb, qc, qd⟩ = true → runStep L ⟨qa, qb, qc, qd⟩ = L.set m (joinQ (L.getD (L.length - 1) ⟨0, 0, 0, 0⟩) ⟨qa, qb, qc, qd⟩)) := fun q => by rw [step_join h0 q, hm]; rfl
    have HSN : Hid (joinB (L.getD (L.length - 1) ⟨0, 0, 0, 0⟩) ⟨qa, qb, qc, qd⟩ = false → runStep L ⟨qa, qb, qc, qd⟩ = L ++ [⟨qa, qb, qc, qd⟩]) := fun q => step_new fun _ => q
    have HLa : Hid (atK qdK L m = L.getD (L.length - 1) ⟨0, 0, 0, 0⟩) := by unfold Hid; rw [hm]; rfl
    have KJ : ∀ W, Calls Tryz.prog 66 #[qdV (L.getD (L.length - 1) ⟨0, 0, 0, 0⟩), .agg #[.int .i64 qa, .int .i64 qb, .int .i64 qc, .int .i64 qd]] W fun e w' => e = .returned (.tuple #[qdV (joinQ (L.getD (L.length - 1) ⟨0, 0, 0, 0⟩) ⟨qa, qb, qc, qd⟩), .bool (joinB (L.getD (L.length - 1) ⟨0, 0, 0, 0⟩) ⟨qa, qb, qc, qd⟩)]) ∧ Below W.heap.size W w' := fun W => implJoinRuns _ ⟨qa, qb, qc, qd⟩ W (by omega) (by omega)
    generalize L.getD (L.length - 1) ⟨0, 0, 0, 0⟩ = p at *
    obtain ⟨pa, pb, pc, pd⟩ := p
    generalize hok : joinB ⟨pa, pb, pc, pd⟩ ⟨qa, qb, qc, qd⟩ = ok at *
    clear hok
    have KJ : ∀ W, Calls Tryz.prog 66 #[.agg #[.int .i64 pa, .int .i64 pb, .int .i64 pc, .int .i64 pd], .agg #[.int .i64 qa, .int .i64 qb, .int .i64 qc, .int .i64 qd]] W fun e w' => e = .returned (.tuple #[.agg #[.int .i64 pa, .int .i64 qb, .int .i64 pc, .int .i64 pd], .bool ok]) ∧ Below W.heap.size W w' := KJ
    obtain ⟨V0, hV0⟩ : ∃ V0, V0 = wr.alloc (.cells #[.int .i64 qa, .int .i64 qb, .int .i64 qc, .int .i64 qd] 103) := ⟨_, rfl⟩
    rw [← hV0] at S1
    have B0 : Blk V0 wr.heap.size #[.int .i64 qa, .int .i64 qb, .int .i64 qc, .int .i64 qd] 103 := by rw [hV0]; exact Blk.new _ _ _
    have KS : Hid (∀ V, Below V0.heap.size V0 V → (V.cell? ⟨g, m * 4, none⟩ = some (.int .i64 pa) ∧ V.cell? ⟨g, m * 4 + 1, none⟩ = some (.int .i64 pb) ∧ V.cell? ⟨g, m * 4 + 2, none⟩ = some (.int .i64 pc) ∧ V.cell? ⟨g, m * 4 + 3, none⟩ = some (.int .i64 pd) ∧ V.cell? ⟨wr.heap.size, 0, none⟩ = some (.int .i64 qa) ∧ V.cell? ⟨wr.heap.size, 1, none⟩ = some (.int .i64 qb) ∧ V.cell? ⟨wr.heap.size, 2, none⟩ = some (.int .i64 qc) ∧ V.cell? ⟨wr.heap.size, 3, none⟩ = some (.int .i64 qd)) ∧ QSt 103 w (.slice (some ⟨g, 0, none⟩) L.length cap) L V) := fun V hb => by
      have s := S1.out.later hb
      obtain ⟨c0, c1, c2, c3⟩ := (s.cellA (k := m) (by omega)).1.quad
      rw [HLa.out] at c0 c1 c2 c3
      have b := B0.below hb B0.lt
      exact ⟨⟨c0, c1, c2, c3, b.cell 0 rfl, b.cell 1 rfl, b.cell 2 rfl, b.cell 3 rfl⟩, s⟩
    have HV0 := hideP hV0
    have hd0 : decide (0 ≤ (L.length : Int) - 1) = true := decide_eq_true (by omega)
    have hlm : (L.length : Int) = (m : Int) + 1 := by omega
    have hmb : m ≤ 2000 := by omega
    have KEy : Hid (∀ V, Below V0.drew.heap.size V0.drew V → V.cell? ⟨g, m * 4, none⟩ = some (.int .i64 pa) ∧ V.cell? ⟨g, m * 4 + 1, none⟩ = some (.int .i64 pb) ∧ V.cell? ⟨g, m * 4 + 2, none⟩ = some (.int .i64 pc) ∧ V.cell? ⟨g, m * 4 + 3, none⟩ = some (.int .i64 pd) ∧ V.cell? ⟨wr.heap.size, 0, none⟩ = some (.int .i64 qa) ∧ V.cell? ⟨wr.heap.size, 1, none⟩ = some (.int .i64 qb) ∧ V.cell? ⟨wr.heap.size, 2, none⟩ = some (.int .i64 qc) ∧ V.cell? ⟨wr.heap.size, 3, none⟩ = some (.int .i64 qd)) := fun V hb => (KS.out V ((Below.refl _ _).drew.trans hb)).1
    clear hV0 B0 S1 HLa hEn hLn hle hd0 hlm
    go_upto_region 7 with fail
    rw [← HV0.out]
    refine wp_region_held_drew (S := (fun V => V.cell? ⟨g, m * 4, none⟩ = some (.int .i64 pa) ∧ V.cell? ⟨g, m * 4 + 1, none⟩ = some (.int .i64 pb) ∧ V.cell? ⟨g, m * 4 + 2, none⟩ = some (.int .i64 pc) ∧ V.cell? ⟨g, m * 4 + 3, none⟩ = some (.int .i64 pd) ∧ V.cell? ⟨wr.heap.size, 0, none⟩ = some (.int .i64 qa) ∧ V.cell? ⟨wr.heap.size, 1, none⟩ = some (.int .i64 qb) ∧ V.cell? ⟨wr.heap.size, 2, none⟩ = some (.int .i64 qc) ∧ V.cell? ⟨wr.heap.size, 3, none⟩ = some (.int .i64 qd))) (by kernel_rfl) (KEy.out _ (Below.refl _ _)) (fun hHeld => ?_)
    refine held_take (i := 0) (d := 23) (v := ?_) rfl rfl (by kernel_rfl) (by decide +kernel) (by decide +kernel) (fun _ _ _ h => h) (by rfl) ?_ (by assumption) ?_
    rotate_left
    · intro wq hSw
      obtain ⟨q0, q1, q2, q3, q4, q5, q6, q7⟩ := hSw
      go_simp
      (try rfl)
      (try (rw [if_pos (by omega)]))
    simp only [Act.put, List.setIfInBounds_toArray, List.set_cons_zero, List.set_cons_succ]
    refine held_take (i := 1) (d := 24) (v := ?_) rfl rfl (by kernel_rfl) (by decide +kernel) (by decide +kernel) (fun _ _ _ h => h) (by rfl) ?_ (by assumption) ?_
    rotate_left
    · intro wq hSw
      obtain ⟨q0, q1, q2, q3, q4, q5, q6, q7⟩ := hSw
      go_simp
      (try rfl)
      (try (rw [if_pos (by omega)]))
    simp only [Act.put, List.setIfInBounds_toArray, List.set_cons_zero, List.set_cons_succ]
    refine held_take (i := 2) (d := 25) (v := ?_) rfl rfl (by kernel_rfl) (by decide +kernel) (by decide +kernel) (fun _ _ _ h => h) (by rfl) ?_ (by assumption) ?_
    rotate_left
    · intro wq hSw
      obtain ⟨q0, q1, q2, q3, q4, q5, q6, q7⟩ := hSw
      go_simp
      (try rfl)
      (try (rw [if_pos (by omega)]))
    simp only [Act.put, List.setIfInBounds_toArray, List.set_cons_zero, List.set_cons_succ]
    refine held_take (i := 3) (d := 26) (v := ?_) rfl rfl (by kernel_rfl) (by decide +kernel) (by decide +kernel) (fun _ _ _ h => h) (by rfl) ?_ (by assumption) ?_
    rotate_left
    · intro wq hSw
      obtain ⟨q0, q1, q2, q3, q4, q5, q6, q7⟩ := hSw
      go_simp
      (try rfl)
      (try (rw [if_pos (by omega)]))
    simp only [Act.put, List.setIfInBounds_toArray, List.set_cons_zero, List.set_cons_succ]
    refine held_take (i := 4) (d := 27) (v := ?_) rfl rfl (by kernel_rfl) (by decide +kernel) (by decide +kernel) (fun _ _ _ h => h) (by rfl) ?_ (by assumption) ?_
    rotate_left
    · intro wq hSw
      obtain ⟨q0, q1, q2, q3, q4, q5, q6, q7⟩ := hSw
      go_simp
      (try rfl)
      (try (rw [if_pos (by omega)]))
    simp only [Act.put, List.setIfInBounds_toArray, List.set_cons_zero, List.set_cons_succ]
    refine held_take (i := 5) (d := 28) (v := ?_) rfl rfl (by kernel_rfl) (by decide +kernel) (by decide +kernel) (fun _ _ _ h => h) (by rfl) ?_ (by assumption) ?_
    rotate_left
    · intro wq hSw
      obtain ⟨q0, q1, q2, q3, q4, q5, q6, q7⟩ := hSw
      go_simp
      (try rfl)
      (try (rw [if_pos (by omega)]))
    simp only [Act.put, List.setIfInBounds_toArray, List.set_cons_zero, List.set_cons_succ]
    refine held_mix (B := V0.drew) (f := 2) (E := #[true, true, true, true, true, true, true, true, true, true, true, false, false]) needs [7, 8, 9] [29, 22, 30, 31, 9] [⟨6, 29, .tuple #[.agg #[.int .i64 pa, .int .i64 qb, .int .i64 pc, .int .i64 pd], .bool ok]⟩, ⟨7, 22, .tuple #[.agg #[.int .i64 pa, .int .i64 qb, .int .i64 pc, .int .i64 pd], .bool ok]⟩, ⟨8, 30, .agg #[.int .i64 pa, .int .i64 qb, .int .i64 pc, .int .i64 pd]⟩, ⟨9, 31, .bool ok⟩] [⟨10, 9, #[.int .i64 0, .int .i64 0, .int .i64 0, .int .i64 0], 103⟩] KEy.out (by simp) (by simp) (by simp) (by simp) (by simp) (by simp) (by simp) (by decide +kernel) (fun _ _ _ _ _ h => h) ?quiet ?call ?make ?fin 5 [6, 7, 8, 9] [10] _ _ _ (fun _ => 0) (by decide +kernel) (by decide) (by decide) (by simp) (by simp) ⟨rfl, rfl, fun _ _ => rfl⟩ (by simp) (by simp) (by simp) (Below.refl _ _)
    case quiet =>
      intro c hmem hq
      simp only [List.mem_cons, List.not_mem_nil, or_false] at hmem
      rcases hmem with rfl | rfl | rfl | rfl
      · simp at hq
      · refine ⟨_, rfl, rfl, fun a' hA hc => ⟨by rfl, fun w _ => ?_⟩⟩
        have g0 := hc ⟨6, 29, .tuple #[.agg #[.int .i64 pa, .int .i64 qb, .int .i64 pc, .int .i64 pd], .bool ok]⟩ (by simp) (by simp [needs])
        dsimp only at g0
        simp [execOp, go_sem, g0]
      · refine ⟨_, rfl, rfl, fun a' hA hc => ⟨by rfl, fun w _ => ?_⟩⟩
        have g0 := hc ⟨7, 22, .tuple #[.agg #[.int .i64 pa, .int .i64 qb, .int .i64 pc, .int .i64 pd], .bool ok]⟩ (by simp) (by simp [needs])
        dsimp only at g0
        simp [execOp, go_sem, g0]
      · refine ⟨_, rfl, rfl, fun a' hA hc => ⟨by rfl, fun w _ => ?_⟩⟩
        have g0 := hc ⟨7, 22, .tuple #[.agg #[.int .i64 pa, .int .i64 qb, .int .i64 pc, .int .i64 pd], .bool ok]⟩ (by simp) (by simp [needs])
        dsimp only at g0
        simp [execOp, go_sem, g0]
    case call =>
      intro c hmem hnq a' w' K hA hc hb hK
      simp only [List.mem_cons, List.not_mem_nil, or_false] at hmem
      rcases hmem with rfl | rfl | rfl | rfl
      · refine op_callV (args := #[.agg #[.int .i64 pa, .int .i64 pb, .int .i64 pc, .int .i64 pd], .agg #[.int .i64 qa, .int .i64 qb, .int .i64 qc, .int .i64 qd]]) (T := fun u w'' => u = .tuple #[.agg #[.int .i64 pa, .int .i64 qb, .int .i64 pc, .int .i64 pd], .bool ok] ∧ Below w'.heap.size w' w'') rfl rfl (by rw [hA.eval (j := 23) (by decide)]; rfl) rfl (by rfl) (by simp only [List.map_toArray, List.map_cons, List.map_nil]; rw [hA.eval (j := 27) (by decide), hA.eval (j := 28) (by decide)]; rfl) (enters_of Tryz.func66 (by kernel_rfl) rfl) ((KJ w').mono ?_) ?_
        · rintro e V ⟨rfl, h⟩
          exact ⟨_, rfl, rfl, h⟩
        · rintro u w'' ⟨rfl, h⟩
          exact hK _ h
      · exact absurd (by simp) hnq
      · exact absurd (by simp) hnq
      · exact absurd (by simp) hnq
    case make =>
      intro m hm a' w' K hK
      simp only [List.mem_cons, List.not_mem_nil, or_false] at hm
      subst hm
      exact op_any rfl rfl (by rfl) (by simp [execOp, go_sem]; try rfl) hK
    case fin =>
      intro a' w' p hA hc hm hne hb
      obtain rfl := agree_eq [(29, .tuple #[.agg #[.int .i64 pa, .int .i64 qb, .int .i64 pc, .int .i64 pd], .bool ok]), (22, .tuple #[.agg #[.int .i64 pa, .int .i64 qb, .int .i64 pc, .int .i64 pd], .bool ok]), (30, .agg #[.int .i64 pa, .int .i64 qb, .int .i64 pc, .int .i64 pd]), (31, .bool ok), (9, .pointer (some ⟨p 10, 0, none⟩))] hA (by simp) (by simp) (by simp) (by
        have h0 := hc ⟨6, 29, .tuple #[.agg #[.int .i64 pa, .int .i64 qb, .int .i64 pc, .int .i64 pd], .bool ok]⟩ (by simp)
        have h1 := hc ⟨7, 22, .tuple #[.agg #[.int .i64 pa, .int .i64 qb, .int .i64 pc, .int .i64 pd], .bool ok]⟩ (by simp)
        have h2 := hc ⟨8, 30, .agg #[.int .i64 pa, .int .i64 qb, .int .i64 pc, .int .i64 pd]⟩ (by simp)
        have h3 := hc ⟨9, 31, .bool ok⟩ (by simp)
        have k0 := (hm ⟨10, 9, #[.int .i64 0, .int .i64 0, .int .i64 0, .int .i64 0], 103⟩ (by simp)).1
        intro x hx
        simp only [List.mem_cons, List.not_mem_nil, or_false] at hx
        rcases hx with rfl | rfl | rfl | rfl | rfl
        · exact h0
        · exact h1
        · exact h2
        · exact h3
        · exact k0)
      obtain ⟨_, hP0, hPb0⟩ := hm ⟨10, 9, #[.int .i64 0, .int .i64 0, .int .i64 0, .int .i64 0], 103⟩ (by simp)
      dsimp only at hP0 hPb0
      clear hA hc hm hne
      generalize p 10 = pp0 at *
      simp only [List.foldl_cons, List.foldl_nil, Act.put, List.setIfInBounds_toArray, List.set_cons_zero, List.set_cons_succ]
      obtain ⟨pc0, pc1, pc2, pc3, pt0, pt1, pt2, pt3⟩ := factsB hP0
      obtain ⟨V1, hV1⟩ : ∃ V1, V1 = put4b w' pp0 (.int .i64 pa) (.int .i64 qb) (.int .i64 pc) (.int .i64 pd) := ⟨_, rfl⟩
      have hX : Blk V1 pp0 #[.int .i64 pa, .int .i64 qb, .int .i64 pc, .int .i64 pd] 103 := by rw [hV1]; exact blk_put4b hP0
      have b1' : Below V0.drew.heap.size V0.drew V1 := by rw [hV1]; exact below_put4b hb hPb0
      refine held_one (i := 11) (by decide +kernel) (op_skip (w' := V1) rfl rfl (by rfl) (by rw [hV1]; simp [execOp, go_sem, pc0, pc1, pc2, pc3, pt0, pt1, pt2, pt3, put4b]) ?_)
      refine ⟨KEy.out _ b1', ?_⟩
      clear hV1 pc0 pc1 pc2 pc3 pt0 pt1 pt2 pt3 hP0 hPb0 hb
      refine held_one (i := 12) (by decide +kernel) (op_any (v := .bool ok) rfl rfl (by rfl) (by simp [execOp, go_sem]; try rfl) ?_)
      refine ⟨KEy.out _ b1', ?_⟩
      simp only [Act.put, List.setIfInBounds_toArray, List.set_cons_zero, List.set_cons_succ]
      refine wpAnyH_done (by decide +kernel) ?_ _
      obtain ⟨⟨c0, c1, c2, c3, e0, e1, e2, e3⟩, hS2⟩ := KS.out V1 ((Below.refl _ _).drew.trans b1')
      have hfz := (hS2.cellA (k := m) (by omega)).2
      have S2 := hideP hS2
      obtain ⟨j0, j1, j2, j3, _⟩ := factsB hX
      clear hS2 hX b1' KEy KS KJ S
      cases ok
      · have HE := hideP (HSN.out rfl)
        clear HSJ HSN hfz c0 c1 c2 c3 j0 j1 j2 j3
        go_wp2_with (at_builtin; refine wpList_append_own _ rfl _ _ 61 rfl w.heap.size 103 i0 (.agg #[.int .i64 0, .int .i64 0, .int .i64 0, .int .i64 0]) 4 32 Tryz.underlying61 hi hz0 hz1 hz2 rfl (by decide) _ _ _ rfl (S2.out.row.alloc _) ⟨V1.heap.size, 0, none⟩ 1 1 [.int .i64 qa, .int .i64 qb, .int .i64 qc, .int .i64 qd] rfl rfl (cells_quad _ _ _ _ _ _ rfl) (by simp [Value.oneCell']) (by unfold maxLen; omega) (by omega) (by have := S2.out.below.size; rw [inew]; omega) ?_; intro v' w9 hown' hgrow _)
        refine ⟨⟨k + 1, by omega, by apply congrArg (Value.int .i64); omega, ?_⟩, by simp [intOf]; omega⟩
        rw [HT.out, HE.out]
        have h9 := S2.out.app ⟨qa, qb, qc, qd⟩ (by first | exact hown' | (rw [hm]; exact hown')) hgrow
        exact h9
      · have HE := hideP (HSJ.out rfl)
        have f0 := hfz (m * 4)
        have f1 := hfz (m * 4 + 1)
        have f2 := hfz (m * 4 + 2)
        have f3 := hfz (m * 4 + 3)
        have S3 := hideP (S2.out.set (k := m) (by omega) ⟨pa, qb, pc, pd⟩)
        clear HSJ HSN hfz e0 e1 e2 e3
        go_wp2
        refine ⟨⟨k + 1, by omega, by apply congrArg (Value.int .i64); omega, ?_⟩, by simp [intOf]; omega⟩
        rw [HT.out, HE.out]
        exact S3.out
end Go.Proofs.YtdgolaaheakfoaaGreatDoor.ctr
