/- Contract of the model's DrawCompareDates. -/
import Derived.Test.YtckjcaloofjeoaaDoorWeekDraw2
import Derived.Test.YtckjcaloofjeoaaDoorSolDate
import Derived.Deep.RegionWith
import Derived.Deep.DeepCutAuto
namespace Go.Proofs.YtckjcaloofjeoaaDoor.ctr
open Go.RowKit

theorem Blk.on {P w1 : World} {b : Nat} {vs : Array Value} {t : TypeId} (h : Blk P b vs t) (hb : Below P.heap.size P w1) : Blk w1 b vs t := h.below hb h.lt
theorem Blk.all4 {w : World} {b : Nat} {v0 v1 v2 v3 : Value} {t : TypeId} (h : Blk w b #[v0, v1, v2, v3] t) : w.cell? ⟨b, 0, none⟩ = some v0 ∧ w.cell? ⟨b, 1, none⟩ = some v1 ∧ w.cell? ⟨b, 2, none⟩ = some v2 ∧ w.cell? ⟨b, 3, none⟩ = some v3 ∧ w.frozen? ⟨b, 0, none⟩ = false ∧ w.frozen? ⟨b, 1, none⟩ = false ∧ w.frozen? ⟨b, 2, none⟩ = false ∧ w.frozen? ⟨b, 3, none⟩ = false :=
  ⟨h.cell 0 rfl, h.cell 1 rfl, h.cell 2 rfl, h.cell 3 rfl, h.thaw 0, h.thaw 1, h.thaw 2, h.thaw 3⟩
theorem below_on {V P w1 : World} (h : Below V.heap.size V P) (hb : Below P.heap.size P w1) : Below V.heap.size V w1 := h.trans (hb.mono h.size)

theorem rel_set {V w2 : World} {q ab rb : Nat} {c y m d : Int} (c1 y1 m1 d1 : Int) (hN : Blk w2 q z4 25) (hA : Blk w2 ab #[.int .i64 c, .int .i64 y, .int .i64 m, .int .i64 d] 25) (hX : Blk w2 rb z4 25) (hY : Blk w2 (rb + 1) z4 25) (hB : Below V.heap.size V w2) (hq : V.heap.size ≤ q ∧ q ≠ ab ∧ q ≠ rb ∧ q ≠ rb + 1) :
    ∃ (q' : Nat) (c' y' m' d' : Int), Value.pointer (some ⟨q, 0, none⟩) = Value.pointer (some ⟨q', 0, none⟩) ∧ V.heap.size ≤ q' ∧ Blk ((((w2.setCell ⟨q, 0, none⟩ (.int .i64 c1)).setCell ⟨q, 1, none⟩ (.int .i64 y1)).setCell ⟨q, 2, none⟩ (.int .i64 m1)).setCell ⟨q, 3, none⟩ (.int .i64 d1)) q' #[.int .i64 c', .int .i64 y', .int .i64 m', .int .i64 d'] 25 ∧ Blk ((((w2.setCell ⟨q, 0, none⟩ (.int .i64 c1)).setCell ⟨q, 1, none⟩ (.int .i64 y1)).setCell ⟨q, 2, none⟩ (.int .i64 m1)).setCell ⟨q, 3, none⟩ (.int .i64 d1)) ab #[.int .i64 c, .int .i64 y, .int .i64 m, .int .i64 d] 25 ∧ Blk ((((w2.setCell ⟨q, 0, none⟩ (.int .i64 c1)).setCell ⟨q, 1, none⟩ (.int .i64 y1)).setCell ⟨q, 2, none⟩ (.int .i64 m1)).setCell ⟨q, 3, none⟩ (.int .i64 d1)) rb z4 25 ∧ Blk ((((w2.setCell ⟨q, 0, none⟩ (.int .i64 c1)).setCell ⟨q, 1, none⟩ (.int .i64 y1)).setCell ⟨q, 2, none⟩ (.int .i64 m1)).setCell ⟨q, 3, none⟩ (.int .i64 d1)) (rb + 1) z4 25 ∧ Below V.heap.size V ((((w2.setCell ⟨q, 0, none⟩ (.int .i64 c1)).setCell ⟨q, 1, none⟩ (.int .i64 y1)).setCell ⟨q, 2, none⟩ (.int .i64 m1)).setCell ⟨q, 3, none⟩ (.int .i64 d1)) :=
  ⟨q, c1, y1, m1, d1, rfl, hq.1, (((hN.set 0 _).set 1 _).set 2 _).set 3 _, (((hA.other hq.2.1).other hq.2.1).other hq.2.1).other hq.2.1, (((hX.other hq.2.2.1).other hq.2.2.1).other hq.2.2.1).other hq.2.2.1, (((hY.other hq.2.2.2).other hq.2.2.2).other hq.2.2.2).other hq.2.2.2, below_store (below_store (below_store (below_store hB _ hq.1) _ hq.1) _ hq.1) _ hq.1⟩
theorem rel_new {V w2 : World} {ab rb : Nat} {c y m d : Int} (c1 y1 m1 d1 : Int) (hA : Blk w2 ab #[.int .i64 c, .int .i64 y, .int .i64 m, .int .i64 d] 25) (hX : Blk w2 rb z4 25) (hY : Blk w2 (rb + 1) z4 25) (hB : Below V.heap.size V w2) :
    ∃ (q' : Nat) (c' y' m' d' : Int), Value.pointer (some ⟨w2.heap.size, 0, none⟩) = Value.pointer (some ⟨q', 0, none⟩) ∧ V.heap.size ≤ q' ∧ Blk (w2.alloc (.cells #[.int .i64 c1, .int .i64 y1, .int .i64 m1, .int .i64 d1] 25)) q' #[.int .i64 c', .int .i64 y', .int .i64 m', .int .i64 d'] 25 ∧ Blk (w2.alloc (.cells #[.int .i64 c1, .int .i64 y1, .int .i64 m1, .int .i64 d1] 25)) ab #[.int .i64 c, .int .i64 y, .int .i64 m, .int .i64 d] 25 ∧ Blk (w2.alloc (.cells #[.int .i64 c1, .int .i64 y1, .int .i64 m1, .int .i64 d1] 25)) rb z4 25 ∧ Blk (w2.alloc (.cells #[.int .i64 c1, .int .i64 y1, .int .i64 m1, .int .i64 d1] 25)) (rb + 1) z4 25 ∧ Below V.heap.size V (w2.alloc (.cells #[.int .i64 c1, .int .i64 y1, .int .i64 m1, .int .i64 d1] 25)) :=
  ⟨w2.heap.size, c1, y1, m1, d1, rfl, hB.size, Blk.new _ _ _, hA.alloc _, hX.alloc _, hY.alloc _, hB.alloc hB.size _⟩

set_option maxHeartbeats 20000000 in
theorem drawCompare (W : World) (a : Option Addr) (len cap : Nat) (hlen : len ≤ maxLen) (hcode : CodeAt W.heap.size W a len) :
    Calls Tryd.prog 37 #[.slice a len cap] W fun e W' => ∃ c y m d c' y' m' d' : Int, e = .returned (.tuple #[.agg #[.int .i64 c, .int .i64 y, .int .i64 m, .int .i64 d], .agg #[.int .i64 c', .int .i64 y', .int .i64 m', .int .i64 d']]) ∧ Below W.heap.size W W' := by
  have HC : Hid (CodeAt W.heap.size W a len) := hcode
  clear hcode
  go_enter Tryd.func37, Tryd.ntmps37
  go_wp2_with fail
  obtain ⟨V, eV⟩ : ∃ V, V = (W.alloc (.cells z4 25)).alloc (.cells z4 25) := ⟨_, rfl⟩
  have BV : Below W.heap.size W V := by rw [eV]; exact ((Below.refl _ _).alloc (Nat.le_refl _) _).alloc (by rw [size_new]; omega) _
  have hV : V.heap.size = W.heap.size + 2 := by rw [eV, size_new, size_new]
  have ZA : Blk V W.heap.size z4 25 := by rw [eV]; exact (Blk.new W _ _).alloc _
  have ZB : Blk V (W.heap.size + 1) z4 25 := by
    rw [eV]
    have := Blk.new (W.alloc (.cells z4 25)) z4 25
    rwa [size_new] at this
  rw [← eV]
  clear eV
  have HBV := hideP BV
  have HZA := hideP ZA
  have HZB := hideP ZB
  have HCV : Hid (CodeAt V.heap.size V a len) := by
    rcases HC.out with h | ⟨b, off, zs, ha, hlt, hc, hz⟩
    · exact .inl h
    · exact .inr ⟨b, off, zs, ha, Nat.lt_of_lt_of_le hlt BV.size, fun i hi => by rw [BV.cell (p := ⟨b, off + i, none⟩) hlt]; exact hc i hi, hz⟩
  clear BV ZA ZB
  refine (l01New V a len cap hlen HCV.out).mono ?_
  rintro e W1 ⟨B, rfl, hC1, hb1⟩
  have HK1 : Hid (Cur V.heap.size W1 a len cap B) := hC1
  have HB1 : Hid (Below V.heap.size V W1) := hb1
  clear hC1 hb1
  go_wp2_with fail
  refine (l02Date _ _ a len cap B hlen HK1.out).mono ?_
  rintro e W2 ⟨c, y, m, d, rfl, hC2, hG2⟩
  have HK2 : Hid (Cur V.heap.size W2 a len cap B) := hC2
  have HB2 : Hid (Below V.heap.size V W2) := below_grownBy HB1.out hG2 HB1.out.size HK1.out.lo
  clear hC2 hG2
  go_wp2_with fail
  refine (l01Once _ _ a len cap B 4 hlen (by omega) (HK2.out.alloc _)).mono ?_
  rintro e W3 ⟨o, rfl, hC3, hG3⟩
  have hlo := HK2.out.lo
  have hhi := HK2.out.hi
  have HK3 : Hid (Cur V.heap.size W3 a len cap B) := hC3
  have HD3 : Hid (Blk W3 W2.heap.size #[.int .i64 c, .int .i64 y, .int .i64 m, .int .i64 d] 25) := (Blk.new W2 _ _).grown hG3 (by omega)
  have HB3 : Hid (Below V.heap.size V W3) := below_grownBy (HB2.out.alloc HB2.out.size _) hG3 (by rw [size_new]; have := HB2.out.size; omega) hlo
  clear hC3 hG3
  have HA3 : Hid (Blk W3 W.heap.size z4 25) := HZA.out.below HB3.out (by omega)
  have HR3 : Hid (Blk W3 (W.heap.size + 1) z4 25) := HZB.out.below HB3.out (by omega)
  have p0 := HD3.out.cell 0 rfl
  have p1 := HD3.out.cell 1 rfl
  have p2 := HD3.out.cell 2 rfl
  have p3 := HD3.out.cell 3 rfl
  have pa0 : ∀ o, (W3.drew.alloc o).cell? ⟨W2.heap.size, 0, none⟩ = some (.int .i64 c) := fun o => (HD3.out.drew.alloc o).cell 0 rfl
  have pa1 : ∀ o, (W3.drew.alloc o).cell? ⟨W2.heap.size, 1, none⟩ = some (.int .i64 y) := fun o => (HD3.out.drew.alloc o).cell 1 rfl
  have pa2 : ∀ o, (W3.drew.alloc o).cell? ⟨W2.heap.size, 2, none⟩ = some (.int .i64 m) := fun o => (HD3.out.drew.alloc o).cell 2 rfl
  have pa3 : ∀ o, (W3.drew.alloc o).cell? ⟨W2.heap.size, 3, none⟩ = some (.int .i64 d) := fun o => (HD3.out.drew.alloc o).cell 3 rfl
  have hdl := HD3.out.lt
  have hne : ¬ W2.heap.size = W3.heap.size := by omega
  cases o
  · obtain ⟨a0, a1, a2, a3, f0, f1, f2, f3⟩ := HA3.out.all4
    obtain ⟨b0, b1, b2, b3, g0, g1, g2, g3⟩ := HR3.out.all4
    go_wp2_with fail
    go_region_with (go_at_call 74; refine (l02Date V.heap.size _ a len cap B hlen (by first | exact HK3.out | exact HK3.out.drewN 1)).mono ?_; rintro e W4 ⟨c', y', m', d', rfl, hC4, hG4⟩; have A4 : Blk W4 W2.heap.size #[.int .i64 c, .int .i64 y, .int .i64 m, .int .i64 d] 25 := Blk.grown (by exact HD3.out) hG4 (by omega); have X4 : Blk W4 W.heap.size z4 25 := Blk.grown (by exact HA3.out) hG4 (by omega); have Y4 : Blk W4 (W.heap.size + 1) z4 25 := Blk.grown (by exact HR3.out) hG4 (by omega); have B4 : Below V.heap.size V W4 := below_grownBy (by first | exact HB3.out.drew | exact HB3.out) hG4 (by have := HB3.out.size; first | exact this | exact this) hlo; obtain ⟨a0, a1, a2, a3, f0, f1, f2, f3⟩ := X4.all4; obtain ⟨b0, b1, b2, b3, g0, g1, g2, g3⟩ := Y4.all4; obtain ⟨p0, p1, p2, p3, _⟩ := A4.all4; have HX4 := hideP X4; have HY4 := hideP Y4; have HB4 := hideP B4; clear X4 Y4 B4 A4 hC4 hG4)
    all_goals
      go_wp2_with fail
      have BW : Below W.heap.size W W4 := HBV.out.trans (HB4.out.mono (by omega))
      obtain ⟨W9, e9⟩ : ∃ W9, W9 = ((((((((W4.setCell ⟨W.heap.size, 0, none⟩ (.int .i64 c)).setCell ⟨W.heap.size, 1, none⟩ (.int .i64 y)).setCell ⟨W.heap.size, 2, none⟩ (.int .i64 m)).setCell ⟨W.heap.size, 3, none⟩ (.int .i64 d)).setCell ⟨W.heap.size + 1, 0, none⟩ (.int .i64 c')).setCell ⟨W.heap.size + 1, 1, none⟩ (.int .i64 y')).setCell ⟨W.heap.size + 1, 2, none⟩ (.int .i64 m')).setCell ⟨W.heap.size + 1, 3, none⟩ (.int .i64 d')) := ⟨_, rfl⟩
      have X9 : Blk W9 W.heap.size #[.int .i64 c, .int .i64 y, .int .i64 m, .int .i64 d] 25 := by rw [e9]; exact ((((((((HX4.out).set 0 _).set 1 _).set 2 _).set 3 _).other (by omega)).other (by omega)).other (by omega)).other (by omega)
      have Y9 : Blk W9 (W.heap.size + 1) #[.int .i64 c', .int .i64 y', .int .i64 m', .int .i64 d'] 25 := by rw [e9]; exact ((((((((HY4.out).other (by omega)).other (by omega)).other (by omega)).other (by omega)).set 0 _).set 1 _).set 2 _).set 3 _
      have B9 : Below W.heap.size W W9 := by rw [e9]; exact (below_store (below_store (below_store (below_store (below_store (below_store (below_store (below_store BW _ (by omega)) _ (by omega)) _ (by omega)) _ (by omega)) _ (by omega)) _ (by omega)) _ (by omega)) _ (by omega))
      rw [← e9]
      clear e9
      obtain ⟨x0, x1, x2, x3, _⟩ := X9.all4
      obtain ⟨t0, t1, t2, t3, _⟩ := Y9.all4
      refine bodyPost_ret (by simp [results, Tryd.results37, go_sem, x0, x1, x2, x3, t0, t1, t2, t3]; try rfl) rfl ?_
      exact ⟨_, _, _, _, _, _, _, _, rfl, B9⟩
  · have KD := fun W => specDayOf c y m d W
    have KF := fun n W => specDateOf (IntKind.i64.wrap (1 - c)) n W
    obtain ⟨c', y', m', d', ok, eR⟩ : ∃ c' y' m' d' ok, dateR (IntKind.i64.wrap (1 - c)) (dayOf c y m d) = .tuple #[.agg #[.int .i64 c', .int .i64 y', .int .i64 m', .int .i64 d'], .bool ok] := ⟨_, _, _, _, _, rfl⟩
    have KF := fun W => KF (dayOf c y m d) W
    rw [eR] at KF
    clear eR
    generalize dayOf c y m d = N at *
    have sz3 := HB3.out.size
    go_wp2_with fail
    go_cut [6, 7] (fun s6 s7 wx => ∃ (q : Nat) (c' y' m' d' : Int), s6 = .pointer (some ⟨q, 0, none⟩) ∧ V.heap.size ≤ q ∧ Blk wx q #[.int .i64 c', .int .i64 y', .int .i64 m', .int .i64 d'] 25 ∧ Blk wx W2.heap.size #[.int .i64 c, .int .i64 y, .int .i64 m, .int .i64 d] 25 ∧ Blk wx W.heap.size z4 25 ∧ Blk wx (W.heap.size + 1) z4 25 ∧ Below V.heap.size V wx)
    case first =>
      go_region_with (first | (go_at_call 26; refine (KD _).mono ?_; rintro e w1 ⟨rfl, hb⟩; have A1 : Blk w1 W2.heap.size #[.int .i64 c, .int .i64 y, .int .i64 m, .int .i64 d] 25 := Blk.on (by first | exact HD3.out | exact HD3.out.alloc _) hb; have ZA1 : Blk w1 W.heap.size z4 25 := Blk.on (by first | exact HA3.out | exact HA3.out.alloc _) hb; have ZB1 : Blk w1 (W.heap.size + 1) z4 25 := Blk.on (by first | exact HR3.out | exact HR3.out.alloc _) hb; have B1 : Below V.heap.size V w1 := below_on (by first | exact HB3.out.drew | exact HB3.out.drew.alloc HB3.out.drew.size _ | exact HB3.out | exact HB3.out.alloc HB3.out.size _) hb; have s0 := A1.cell 0 rfl; have s0a : ∀ o, (w1.alloc o).cell? ⟨W2.heap.size, 0, none⟩ = some (.int .i64 c) := fun o => (A1.alloc o).cell 0 rfl; have HA1 := hideP A1; have HBw := hideP B1; have HZA1 := hideP ZA1; have HZB1 := hideP ZB1; clear A1 B1 ZA1 ZB1; try (have N1 : Blk w1 W3.heap.size z4 25 := Blk.on (by exact Blk.new W3.drew _ _) hb; have HN1 := hideP N1; clear N1); clear hb) | (go_at_call 20; refine (KF _).mono ?_; rintro e w2 ⟨rfl, hb⟩; have A2 : Blk w2 W2.heap.size #[.int .i64 c, .int .i64 y, .int .i64 m, .int .i64 d] 25 := Blk.on (by first | exact HA1.out | exact HA1.out.alloc _) hb; have ZA2 : Blk w2 W.heap.size z4 25 := Blk.on (by first | exact HZA1.out | exact HZA1.out.alloc _) hb; have ZB2 : Blk w2 (W.heap.size + 1) z4 25 := Blk.on (by first | exact HZB1.out | exact HZB1.out.alloc _) hb; have B2 : Below V.heap.size V w2 := below_on (by first | exact HBw.out | exact HBw.out.alloc HBw.out.size _) hb; have HA2 := hideP A2; have HBw2 := hideP B2; have HZA2 := hideP ZA2; have HZB2 := hideP ZB2; clear A2 B2 ZA2 ZB2; (first | (have HQ : Hid (V.heap.size ≤ W3.heap.size ∧ W3.heap.size ≠ W2.heap.size ∧ W3.heap.size ≠ W.heap.size ∧ W3.heap.size ≠ W.heap.size + 1) := (by unfold Hid; omega); have N2 : Blk w2 W3.heap.size z4 25 := Blk.on (by first | exact HN1.out | exact HN1.out.alloc _) hb; obtain ⟨n0, n1, n2, n3, k0, k1, k2, k3⟩ := N2.all4; have HN2 := hideP N2; clear N2) | (have HQ : Hid (V.heap.size ≤ w1.heap.size ∧ w1.heap.size ≠ W2.heap.size ∧ w1.heap.size ≠ W.heap.size ∧ w1.heap.size ≠ W.heap.size + 1) := (by have z1 := HBw.out.size; have z3 := HA1.out.lt; unfold Hid; omega); have N2 : Blk w2 w1.heap.size z4 25 := Blk.on (Blk.new _ _ _) hb; obtain ⟨n0, n1, n2, n3, k0, k1, k2, k3⟩ := N2.all4; have HN2 := hideP N2; clear N2) | skip); clear hb))
      all_goals (go_wp2_with fail; go_meet)
      all_goals (first | (have hh := rel_set (V := V) (ab := W2.heap.size) (rb := W.heap.size) c' y' m' d' HN2.out HA2.out HZA2.out HZB2.out HBw2.out HQ.out; clear HN2 HQ; exact hh) | (have hh := rel_new (V := V) (ab := W2.heap.size) (rb := W.heap.size) c' y' m' d' HA2.out HZA2.out HZB2.out HBw2.out; exact hh))
    case rest =>
      obtain ⟨q, c', y', m', d', rfl, hq, Q1, Q2, Q3, Q4, Q5⟩ := hcut
      obtain ⟨r0, r1, r2, r3, _⟩ := Q1.all4
      obtain ⟨p0, p1, p2, p3, _⟩ := Q2.all4
      obtain ⟨a0, a1, a2, a3, f0, f1, f2, f3⟩ := Q3.all4
      obtain ⟨b0, b1, b2, b3, g0, g1, g2, g3⟩ := Q4.all4
      have HX4 := hideP Q3
      have HY4 := hideP Q4
      have HB4 := hideP Q5
      have hqa : ¬ q = W.heap.size := by omega
      have hqb : ¬ q = W.heap.size + 1 := by omega
      clear Q1 Q2 Q3 Q4 Q5
      go_wp2_with fail
      go_region
      all_goals
        go_wp2_with fail
        have BW : Below W.heap.size W wc := HBV.out.trans (HB4.out.mono (by omega))
        obtain ⟨W9, e9⟩ : ∃ W9, W9 = ((((((((wc.setCell ⟨W.heap.size, 0, none⟩ (.int .i64 c)).setCell ⟨W.heap.size, 1, none⟩ (.int .i64 y)).setCell ⟨W.heap.size, 2, none⟩ (.int .i64 m)).setCell ⟨W.heap.size, 3, none⟩ (.int .i64 d)).setCell ⟨W.heap.size + 1, 0, none⟩ (.int .i64 c')).setCell ⟨W.heap.size + 1, 1, none⟩ (.int .i64 y')).setCell ⟨W.heap.size + 1, 2, none⟩ (.int .i64 m')).setCell ⟨W.heap.size + 1, 3, none⟩ (.int .i64 d')).drew := ⟨_, rfl⟩
        have X9 : Blk W9 W.heap.size #[.int .i64 c, .int .i64 y, .int .i64 m, .int .i64 d] 25 := by rw [e9]; exact Blk.drew (((((((((HX4.out).set 0 _).set 1 _).set 2 _).set 3 _).other (by omega)).other (by omega)).other (by omega)).other (by omega))
        have Y9 : Blk W9 (W.heap.size + 1) #[.int .i64 c', .int .i64 y', .int .i64 m', .int .i64 d'] 25 := by rw [e9]; exact Blk.drew (((((((((HY4.out).other (by omega)).other (by omega)).other (by omega)).other (by omega)).set 0 _).set 1 _).set 2 _).set 3 _)
        have B9 : Below W.heap.size W W9 := by rw [e9]; exact ((below_store (below_store (below_store (below_store (below_store (below_store (below_store (below_store BW _ (by omega)) _ (by omega)) _ (by omega)) _ (by omega)) _ (by omega)) _ (by omega)) _ (by omega)) _ (by omega))).drew
        rw [← e9]
        clear e9
        obtain ⟨x0, x1, x2, x3, _⟩ := X9.all4
        obtain ⟨t0, t1, t2, t3, _⟩ := Y9.all4
        refine bodyPost_ret (by simp [results, Tryd.results37, go_sem, x0, x1, x2, x3, t0, t1, t2, t3]; try rfl) rfl ?_
        exact ⟨_, _, _, _, _, _, _, _, rfl, B9⟩
end Go.Proofs.YtckjcaloofjeoaaDoor.ctr
