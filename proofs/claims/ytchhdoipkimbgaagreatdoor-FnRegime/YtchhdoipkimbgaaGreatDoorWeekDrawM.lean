/- Contracts of the model's draws for dates (l02AnyYear, l02Date): each call returns four numbers, and nothing that was there but the cursor turns. -/
import Derived.Test.YtchhdoipkimbgaaGreatDoorDrwA
import Derived.Test.YtchhdoipkimbgaaGreatDoorBlkKitM
import Derived.Test.YtchhdoipkimbgaaGreatDoorSolA
namespace Go.Proofs.YtchhdoipkimbgaaGreatDoor.ctr
open Go.RowKit

theorem Cur.store {n0 : Nat} {W : World} {a : Option Addr} {len cap B b i : Nat} (h : Cur n0 W a len cap B) (v : Value) (hb : n0 ≤ b) (hn : b ≠ B) : Cur n0 (W.setCell ⟨b, i, none⟩ v) a len cap B := by
  obtain ⟨y0, hy0⟩ := h.c2
  obtain ⟨j, hj, h1⟩ := h.c1
  refine ⟨h.lo, by rw [set_size]; exact h.hi, h.code.below (below_set W _ hb _), ?_, ⟨j, hj, ?_⟩, ⟨y0, ?_⟩, by rw [World.frozen?_setCell]; exact h.f1, by rw [World.frozen?_setCell]; exact h.f2⟩
  · rw [World.cell?_setCell_other W _ _ _ (by intro e; injection e with e1; omega)]; exact h.c0
  · rw [World.cell?_setCell_other W _ _ _ (by intro e; injection e with e1; omega)]; exact h1
  · rw [World.cell?_setCell_other W _ _ _ (by intro e; injection e with e1; omega)]; exact hy0
theorem Blk.grown {W W' : World} {b B : Nat} {vs : Array Value} {t : TypeId} (h : Blk W b vs t) (g : W.grownBy W' (some B)) (hn : b ≠ B) : Blk W' b vs t :=
  (g.block b h.lt (by intro e; exact hn (Option.some.inj e))).trans h
theorem grown_store {W W' : World} {B b i : Nat} (h : W.grownBy W' (some B)) (v : Value) (hb : W.heap.size ≤ b) : W.grownBy (W'.setCell ⟨b, i, none⟩ v) (some B) :=
  ⟨h.os, h.tape, h.output, by rw [set_size]; exact h.size, fun k hk hr => (Below.heap_setCell W' ⟨b, i, none⟩ v k (fun e => by have : k = b := e; omega)).trans (h.block k hk hr)⟩

def yearsIn : List Int := [1, 4, 100, 400, 1500, 1582, 1700, 1712, 1752, 1900, 2000, 3000]
set_option maxHeartbeats 1000000 in
theorem l02AnyYear (n0 : Nat) (W : World) (a : Option Addr) (len cap B : Nat) (hlen : len ≤ maxLen) (hC : Cur n0 W a len cap B) :
    Calls Tryz.prog 129 #[.pointer (some ⟨B, 0, none⟩)] W fun e W' => ∃ y : Int, e = .returned (.int .i64 y) ∧ Cur n0 W' a len cap B ∧ W.grownBy W' (some B) := by
  have HK : Hid (Cur n0 W a len cap B) := hC
  clear hC
  go_enter Tryz.func129, Tryz.ntmps129
  go_wp2_with fail
  refine (l01Below n0 _ a len cap B 6 hlen (by omega) HK.out).mono ?_
  rintro e W1 ⟨x, rfl, x0, x1, hC1, hG1⟩
  have HK1 : Hid (Cur n0 W1 a len cap B) := hC1
  have HG1 : Hid (W.grownBy W1 (some B)) := hG1
  clear hC1 hG1
  by_cases e0 : x = 0
  · subst e0
    go_wp2_with fail
    refine (l01PickInt n0 _ a len cap B W1.heap.size 12 12 (fun j => yearsIn.getD j 0) hlen (by omega) (by omega) (by rw [size_new]; omega) (Nat.ne_of_gt HK1.out.hi) (fun j hj => alloc_ints W1 yearsIn _ j hj) (HK1.out.alloc _)).mono ?_
    rintro e W2 ⟨j, hj, rfl, hC2, hG2⟩
    have HK2 : Hid (Cur n0 W2 a len cap B) := hC2
    have HG2 : Hid (W.grownBy W2 (some B)) := grown_trans (grown_alloc HG1.out _) hG2
    clear hC2 hG2
    generalize yearsIn.getD j 0 = z at *
    go_wp2
    go_ret
    exact ⟨z, rfl, HK2.out, HG2.out⟩
  by_cases e1 : x = 1
  · subst e1
    go_wp2_with fail
    refine (l01Below n0 _ a len cap B 300 hlen (by omega) HK1.out).mono ?_
    rintro e W2 ⟨z, rfl, z0, z1, hC2, hG2⟩
    have HK2 : Hid (Cur n0 W2 a len cap B) := hC2
    have HG2 : Hid (W.grownBy W2 (some B)) := grown_trans HG1.out hG2
    clear hC2 hG2
    go_wp2
    go_ret
    exact ⟨_, rfl, HK2.out, HG2.out⟩
  go_wp2_with fail
  refine (l01Below n0 _ a len cap B 3000 hlen (by omega) HK1.out).mono ?_
  rintro e W2 ⟨z, rfl, z0, z1, hC2, hG2⟩
  have HK2 : Hid (Cur n0 W2 a len cap B) := hC2
  have HG2 : Hid (W.grownBy W2 (some B)) := grown_trans HG1.out hG2
  clear hC2 hG2
  go_wp2
  go_ret
  exact ⟨_, rfl, HK2.out, HG2.out⟩

set_option maxHeartbeats 2000000 in
theorem l02Date (n0 : Nat) (W : World) (a : Option Addr) (len cap B : Nat) (hlen : len ≤ maxLen) (hC : Cur n0 W a len cap B) :
    Calls Tryz.prog 64 #[.pointer (some ⟨B, 0, none⟩)] W fun e W' => ∃ c y m d : Int, e = .returned (.agg #[.int .i64 c, .int .i64 y, .int .i64 m, .int .i64 d]) ∧ Cur n0 W' a len cap B ∧ W.grownBy W' (some B) := by
  have HK : Hid (Cur n0 W a len cap B) := hC
  clear hC
  have h1 := HK.out.hi
  have h2 := HK.out.lo
  go_enter Tryz.func64, Tryz.ntmps64
  go_wp2_with fail
  refine (l01Below n0 _ a len cap B 2 hlen (by omega) (HK.out.alloc _)).mono ?_
  rintro e W1 ⟨c, rfl, hc0, hc1, hC, hG⟩
  have HK1 : Hid (Cur n0 W1 a len cap B) := hC
  have HG1 : Hid (W.grownBy W1 (some B)) := grown_trans (grown_alloc (grown_refl W _) _) hG
  have HZ1 : Hid (Blk W1 W.heap.size #[.int .i64 0, .int .i64 0, .int .i64 0, .int .i64 0] 36) := (Blk.new W _ _).grown hG (by omega)
  clear hC hG
  go_wp2_with fail
  refine (l02AnyYear n0 _ a len cap B hlen HK1.out).mono ?_
  rintro e W2 ⟨y, rfl, hC, hG⟩
  have HK2 : Hid (Cur n0 W2 a len cap B) := hC
  have HG2 : Hid (W.grownBy W2 (some B)) := grown_trans HG1.out hG
  have HZ2 : Hid (Blk W2 W.heap.size #[.int .i64 0, .int .i64 0, .int .i64 0, .int .i64 0] 36) := HZ1.out.grown hG (by omega)
  clear hC hG
  go_wp2_with fail
  refine (l01Below n0 _ a len cap B 12 hlen (by omega) HK2.out).mono ?_
  rintro e W3 ⟨m, rfl, hm0, hm1, hC, hG⟩
  have HK3 : Hid (Cur n0 W3 a len cap B) := hC
  have HG3 : Hid (W.grownBy W3 (some B)) := grown_trans HG2.out hG
  have HZ3 : Hid (Blk W3 W.heap.size #[.int .i64 0, .int .i64 0, .int .i64 0, .int .i64 0] 36) := HZ2.out.grown hG (by omega)
  have h3 : W.heap.size < W3.heap.size := HZ3.out.lt
  clear hC hG
  have KM : ∀ W, Calls Tryz.prog 130 #[.int .i64 c, .int .i64 y, .int .i64 (1 + m)] W fun e w' => e = .returned (.int .i64 (monthDays c y (1 + m))) ∧ Below W.heap.size W w' := specMonthDays c y (1 + m)
  have bm := monthDays_ge (y := y) (show c = 0 ∨ c = 1 by omega) (show 1 ≤ 1 + m by omega) (show 1 + m ≤ 12 by omega)
  have bm2 := monthDays_le c y (1 + m)
  generalize monthDays c y (1 + m) = md at *
  go_wp2_with fail
  refine (KM _).mono ?_
  rintro e W4 ⟨rfl, hb⟩
  have HK4 : Hid (Cur n0 W4 a len cap B) := (HK3.out.alloc _).below hb
  have HG4 : Hid (W.grownBy W4 (some B)) := grown_trans (grown_alloc HG3.out _) (grown_of_below hb)
  have HZ4 : Hid (Blk W4 W.heap.size #[.int .i64 0, .int .i64 0, .int .i64 0, .int .i64 0] 36) := (HZ3.out.alloc _).below hb (by rw [size_new]; omega)
  have HD4 : Hid (Blk W4 W3.heap.size #[.int .i64 c, .int .i64 y, .int .i64 (1 + m), .int .i64 0] 36) := (Blk.new W3 _ _).below hb (by rw [size_new]; omega)
  clear hb
  go_wp2_with fail
  refine (l01Below n0 _ a len cap B md hlen (by omega) HK4.out).mono ?_
  rintro e W5 ⟨d, rfl, hd0, hd1, hC, hG⟩
  have HK5 : Hid (Cur n0 W5 a len cap B) := hC
  have HG5 : Hid (W.grownBy W5 (some B)) := grown_trans HG4.out hG
  have HZ5 : Hid (Blk W5 W.heap.size #[.int .i64 0, .int .i64 0, .int .i64 0, .int .i64 0] 36) := HZ4.out.grown hG (by omega)
  have HD5 : Hid (Blk W5 W3.heap.size #[.int .i64 c, .int .i64 y, .int .i64 (1 + m), .int .i64 0] 36) := HD4.out.grown hG (by omega)
  clear hC hG
  have u3 := HD5.out.cell 3 rfl
  have v3 := HD5.out.thaw 3
  go_wp2_with fail
  refine (l01Once n0 _ a len cap B 6 hlen (by omega) (HK5.out.store _ (by omega) (by omega))).mono ?_
  rintro e W7 ⟨o, rfl, hC, hG⟩
  have HKv : Hid (Cur n0 W7 a len cap B) := hC
  have HGv : Hid (W.grownBy W7 (some B)) := grown_trans (grown_store HG5.out _ (by omega)) hG
  have HZv : Hid (Blk W7 W.heap.size #[.int .i64 0, .int .i64 0, .int .i64 0, .int .i64 0] 36) := (HZ5.out.other (by omega)).grown hG (by omega)
  have HDv : Hid (Blk W7 W3.heap.size #[.int .i64 c, .int .i64 y, .int .i64 (1 + m), .int .i64 (1 + d)] 36) := (HD5.out.set 3 _).grown hG (by omega)
  clear hC hG u3 v3 KM
  cases o
  · go_wp2_with fail
    refine (l01Below n0 _ a len cap B 24 hlen (by omega) HKv.out).mono ?_
    rintro e V1 ⟨s, rfl, s0, s1, hC, hG⟩
    have HK1 : Hid (Cur n0 V1 a len cap B) := hC
    have HG1 : Hid (W.grownBy V1 (some B)) := grown_trans HGv.out hG
    have HZ1 : Hid (Blk V1 W.heap.size #[.int .i64 0, .int .i64 0, .int .i64 0, .int .i64 0] 36) := HZv.out.grown hG (by omega)
    have HD1 : Hid (Blk V1 W3.heap.size #[.int .i64 c, .int .i64 y, .int .i64 (1 + m), .int .i64 (1 + d)] 36) := HDv.out.grown hG (by omega)
    clear hC hG
    by_cases e0 : s = 0
    · subst e0
      go_wp2_with fail
      refine (l01PickInt n0 _ a len cap B V1.heap.size 4 4 (fun j => ([0, 3001, -1, 9223372036854775807] : List Int).getD j 0) hlen (by omega) (by omega) (by rw [size_new]; omega) (Nat.ne_of_gt HK1.out.hi) (fun j hj => alloc_ints V1 [0, 3001, -1, 9223372036854775807] _ j hj) (HK1.out.alloc _)).mono ?_
      rintro e V2 ⟨j, hj, rfl, hC, hG⟩
      have HK2 : Hid (Cur n0 V2 a len cap B) := hC
      have HG2 : Hid (W.grownBy V2 (some B)) := grown_trans (grown_alloc HG1.out _) hG
      have HZ2 : Hid (Blk V2 W.heap.size #[.int .i64 0, .int .i64 0, .int .i64 0, .int .i64 0] 36) := (HZ1.out.alloc _).grown hG (by omega)
      have HD2 : Hid (Blk V2 W3.heap.size #[.int .i64 c, .int .i64 y, .int .i64 (1 + m), .int .i64 (1 + d)] 36) := (HD1.out.alloc _).grown hG (by omega)
      clear hC hG
      generalize ([0, 3001, -1, 9223372036854775807] : List Int).getD j 0 = z at *
      have p0 : V2.cell? ⟨W3.heap.size, 0, none⟩ = some (.int .i64 c) := (HD2.out).cell 0 rfl
      have p1 : V2.cell? ⟨W3.heap.size, 1, none⟩ = some (.int .i64 y) := (HD2.out).cell 1 rfl
      have p2 : V2.cell? ⟨W3.heap.size, 2, none⟩ = some (.int .i64 (1 + m)) := (HD2.out).cell 2 rfl
      have p3 : V2.cell? ⟨W3.heap.size, 3, none⟩ = some (.int .i64 (1 + d)) := (HD2.out).cell 3 rfl
      have f1 : V2.frozen? ⟨W3.heap.size, 1, none⟩ = false := (HD2.out).thaw 1
      have q0 : V2.cell? ⟨W.heap.size, 0, none⟩ = some (.int .i64 0) := (HZ2.out).cell 0 rfl
      have q1 : V2.cell? ⟨W.heap.size, 1, none⟩ = some (.int .i64 0) := (HZ2.out).cell 1 rfl
      have q2 : V2.cell? ⟨W.heap.size, 2, none⟩ = some (.int .i64 0) := (HZ2.out).cell 2 rfl
      have q3 : V2.cell? ⟨W.heap.size, 3, none⟩ = some (.int .i64 0) := (HZ2.out).cell 3 rfl
      have g0 : V2.frozen? ⟨W.heap.size, 0, none⟩ = false := (HZ2.out).thaw 0
      have g1 : V2.frozen? ⟨W.heap.size, 1, none⟩ = false := (HZ2.out).thaw 1
      have g2 : V2.frozen? ⟨W.heap.size, 2, none⟩ = false := (HZ2.out).thaw 2
      have g3 : V2.frozen? ⟨W.heap.size, 3, none⟩ = false := (HZ2.out).thaw 3
      go_wp2_with fail
      obtain ⟨W9, e9⟩ : ∃ W9, W9 = (((((V2.setCell ⟨W3.heap.size, 1, none⟩ (.int .i64 z)).setCell ⟨W.heap.size, 0, none⟩ (.int .i64 c)).setCell ⟨W.heap.size, 1, none⟩ (.int .i64 z)).setCell ⟨W.heap.size, 2, none⟩ (.int .i64 (1 + m))).setCell ⟨W.heap.size, 3, none⟩ (.int .i64 (1 + d))) := ⟨_, rfl⟩
      have Z9 : Blk W9 W.heap.size #[.int .i64 c, .int .i64 z, .int .i64 (1 + m), .int .i64 (1 + d)] 36 := by rw [e9]; exact ((((HZ2.out.other (by omega)).set 0 _).set 1 _).set 2 _).set 3 _
      have K9 : Cur n0 W9 a len cap B := by rw [e9]; exact ((((HK2.out.store _ (by omega) (by omega)).store _ (by omega) (by omega)).store _ (by omega) (by omega)).store _ (by omega) (by omega)).store _ (by omega) (by omega)
      have G9 : W.grownBy W9 (some B) := by rw [e9]; exact grown_store (grown_store (grown_store (grown_store (grown_store HG2.out _ (by omega)) _ (Nat.le_refl _)) _ (Nat.le_refl _)) _ (Nat.le_refl _)) _ (Nat.le_refl _)
      rw [← e9]
      clear e9
      have r0 : W9.cell? ⟨W.heap.size, 0, none⟩ = some (.int .i64 c) := Z9.cell 0 rfl
      have r1 : W9.cell? ⟨W.heap.size, 1, none⟩ = some (.int .i64 z) := Z9.cell 1 rfl
      have r2 : W9.cell? ⟨W.heap.size, 2, none⟩ = some (.int .i64 (1 + m)) := Z9.cell 2 rfl
      have r3 : W9.cell? ⟨W.heap.size, 3, none⟩ = some (.int .i64 (1 + d)) := Z9.cell 3 rfl
      refine bodyPost_ret (by simp [results, Tryz.results64, go_sem, r0, r1, r2, r3]; try rfl) rfl ?_
      exact ⟨_, _, _, _, rfl, K9, G9⟩
    by_cases e1 : s = 1
    · subst e1
      go_wp2_with fail
      refine (l01PickInt n0 _ a len cap B V1.heap.size 3 3 (fun j => ([0, 13, -1] : List Int).getD j 0) hlen (by omega) (by omega) (by rw [size_new]; omega) (Nat.ne_of_gt HK1.out.hi) (fun j hj => alloc_ints V1 [0, 13, -1] _ j hj) (HK1.out.alloc _)).mono ?_
      rintro e V2 ⟨j, hj, rfl, hC, hG⟩
      have HK2 : Hid (Cur n0 V2 a len cap B) := hC
      have HG2 : Hid (W.grownBy V2 (some B)) := grown_trans (grown_alloc HG1.out _) hG
      have HZ2 : Hid (Blk V2 W.heap.size #[.int .i64 0, .int .i64 0, .int .i64 0, .int .i64 0] 36) := (HZ1.out.alloc _).grown hG (by omega)
      have HD2 : Hid (Blk V2 W3.heap.size #[.int .i64 c, .int .i64 y, .int .i64 (1 + m), .int .i64 (1 + d)] 36) := (HD1.out.alloc _).grown hG (by omega)
      clear hC hG
      generalize ([0, 13, -1] : List Int).getD j 0 = z at *
      have p0 : V2.cell? ⟨W3.heap.size, 0, none⟩ = some (.int .i64 c) := (HD2.out).cell 0 rfl
      have p1 : V2.cell? ⟨W3.heap.size, 1, none⟩ = some (.int .i64 y) := (HD2.out).cell 1 rfl
      have p2 : V2.cell? ⟨W3.heap.size, 2, none⟩ = some (.int .i64 (1 + m)) := (HD2.out).cell 2 rfl
      have p3 : V2.cell? ⟨W3.heap.size, 3, none⟩ = some (.int .i64 (1 + d)) := (HD2.out).cell 3 rfl
      have f2 : V2.frozen? ⟨W3.heap.size, 2, none⟩ = false := (HD2.out).thaw 2
      have q0 : V2.cell? ⟨W.heap.size, 0, none⟩ = some (.int .i64 0) := (HZ2.out).cell 0 rfl
      have q1 : V2.cell? ⟨W.heap.size, 1, none⟩ = some (.int .i64 0) := (HZ2.out).cell 1 rfl
      have q2 : V2.cell? ⟨W.heap.size, 2, none⟩ = some (.int .i64 0) := (HZ2.out).cell 2 rfl
      have q3 : V2.cell? ⟨W.heap.size, 3, none⟩ = some (.int .i64 0) := (HZ2.out).cell 3 rfl
      have g0 : V2.frozen? ⟨W.heap.size, 0, none⟩ = false := (HZ2.out).thaw 0
      have g1 : V2.frozen? ⟨W.heap.size, 1, none⟩ = false := (HZ2.out).thaw 1
      have g2 : V2.frozen? ⟨W.heap.size, 2, none⟩ = false := (HZ2.out).thaw 2
      have g3 : V2.frozen? ⟨W.heap.size, 3, none⟩ = false := (HZ2.out).thaw 3
      go_wp2_with fail
      obtain ⟨W9, e9⟩ : ∃ W9, W9 = (((((V2.setCell ⟨W3.heap.size, 2, none⟩ (.int .i64 z)).setCell ⟨W.heap.size, 0, none⟩ (.int .i64 c)).setCell ⟨W.heap.size, 1, none⟩ (.int .i64 y)).setCell ⟨W.heap.size, 2, none⟩ (.int .i64 z)).setCell ⟨W.heap.size, 3, none⟩ (.int .i64 (1 + d))) := ⟨_, rfl⟩
      have Z9 : Blk W9 W.heap.size #[.int .i64 c, .int .i64 y, .int .i64 z, .int .i64 (1 + d)] 36 := by rw [e9]; exact ((((HZ2.out.other (by omega)).set 0 _).set 1 _).set 2 _).set 3 _
      have K9 : Cur n0 W9 a len cap B := by rw [e9]; exact ((((HK2.out.store _ (by omega) (by omega)).store _ (by omega) (by omega)).store _ (by omega) (by omega)).store _ (by omega) (by omega)).store _ (by omega) (by omega)
      have G9 : W.grownBy W9 (some B) := by rw [e9]; exact grown_store (grown_store (grown_store (grown_store (grown_store HG2.out _ (by omega)) _ (Nat.le_refl _)) _ (Nat.le_refl _)) _ (Nat.le_refl _)) _ (Nat.le_refl _)
      rw [← e9]
      clear e9
      have r0 : W9.cell? ⟨W.heap.size, 0, none⟩ = some (.int .i64 c) := Z9.cell 0 rfl
      have r1 : W9.cell? ⟨W.heap.size, 1, none⟩ = some (.int .i64 y) := Z9.cell 1 rfl
      have r2 : W9.cell? ⟨W.heap.size, 2, none⟩ = some (.int .i64 z) := Z9.cell 2 rfl
      have r3 : W9.cell? ⟨W.heap.size, 3, none⟩ = some (.int .i64 (1 + d)) := Z9.cell 3 rfl
      refine bodyPost_ret (by simp [results, Tryz.results64, go_sem, r0, r1, r2, r3]; try rfl) rfl ?_
      exact ⟨_, _, _, _, rfl, K9, G9⟩
    by_cases e2 : s = 2
    · subst e2
      go_wp2_with fail
      refine (l01PickInt n0 _ a len cap B V1.heap.size 3 3 (fun j => ([0, 32, -1] : List Int).getD j 0) hlen (by omega) (by omega) (by rw [size_new]; omega) (Nat.ne_of_gt HK1.out.hi) (fun j hj => alloc_ints V1 [0, 32, -1] _ j hj) (HK1.out.alloc _)).mono ?_
      rintro e V2 ⟨j, hj, rfl, hC, hG⟩
      have HK2 : Hid (Cur n0 V2 a len cap B) := hC
      have HG2 : Hid (W.grownBy V2 (some B)) := grown_trans (grown_alloc HG1.out _) hG
      have HZ2 : Hid (Blk V2 W.heap.size #[.int .i64 0, .int .i64 0, .int .i64 0, .int .i64 0] 36) := (HZ1.out.alloc _).grown hG (by omega)
      have HD2 : Hid (Blk V2 W3.heap.size #[.int .i64 c, .int .i64 y, .int .i64 (1 + m), .int .i64 (1 + d)] 36) := (HD1.out.alloc _).grown hG (by omega)
      clear hC hG
      generalize ([0, 32, -1] : List Int).getD j 0 = z at *
      have p0 : V2.cell? ⟨W3.heap.size, 0, none⟩ = some (.int .i64 c) := (HD2.out).cell 0 rfl
      have p1 : V2.cell? ⟨W3.heap.size, 1, none⟩ = some (.int .i64 y) := (HD2.out).cell 1 rfl
      have p2 : V2.cell? ⟨W3.heap.size, 2, none⟩ = some (.int .i64 (1 + m)) := (HD2.out).cell 2 rfl
      have p3 : V2.cell? ⟨W3.heap.size, 3, none⟩ = some (.int .i64 (1 + d)) := (HD2.out).cell 3 rfl
      have f3 : V2.frozen? ⟨W3.heap.size, 3, none⟩ = false := (HD2.out).thaw 3
      have q0 : V2.cell? ⟨W.heap.size, 0, none⟩ = some (.int .i64 0) := (HZ2.out).cell 0 rfl
      have q1 : V2.cell? ⟨W.heap.size, 1, none⟩ = some (.int .i64 0) := (HZ2.out).cell 1 rfl
      have q2 : V2.cell? ⟨W.heap.size, 2, none⟩ = some (.int .i64 0) := (HZ2.out).cell 2 rfl
      have q3 : V2.cell? ⟨W.heap.size, 3, none⟩ = some (.int .i64 0) := (HZ2.out).cell 3 rfl
      have g0 : V2.frozen? ⟨W.heap.size, 0, none⟩ = false := (HZ2.out).thaw 0
      have g1 : V2.frozen? ⟨W.heap.size, 1, none⟩ = false := (HZ2.out).thaw 1
      have g2 : V2.frozen? ⟨W.heap.size, 2, none⟩ = false := (HZ2.out).thaw 2
      have g3 : V2.frozen? ⟨W.heap.size, 3, none⟩ = false := (HZ2.out).thaw 3
      go_wp2_with fail
      obtain ⟨W9, e9⟩ : ∃ W9, W9 = (((((V2.setCell ⟨W3.heap.size, 3, none⟩ (.int .i64 z)).setCell ⟨W.heap.size, 0, none⟩ (.int .i64 c)).setCell ⟨W.heap.size, 1, none⟩ (.int .i64 y)).setCell ⟨W.heap.size, 2, none⟩ (.int .i64 (1 + m))).setCell ⟨W.heap.size, 3, none⟩ (.int .i64 z)) := ⟨_, rfl⟩
      have Z9 : Blk W9 W.heap.size #[.int .i64 c, .int .i64 y, .int .i64 (1 + m), .int .i64 z] 36 := by rw [e9]; exact ((((HZ2.out.other (by omega)).set 0 _).set 1 _).set 2 _).set 3 _
      have K9 : Cur n0 W9 a len cap B := by rw [e9]; exact ((((HK2.out.store _ (by omega) (by omega)).store _ (by omega) (by omega)).store _ (by omega) (by omega)).store _ (by omega) (by omega)).store _ (by omega) (by omega)
      have G9 : W.grownBy W9 (some B) := by rw [e9]; exact grown_store (grown_store (grown_store (grown_store (grown_store HG2.out _ (by omega)) _ (Nat.le_refl _)) _ (Nat.le_refl _)) _ (Nat.le_refl _)) _ (Nat.le_refl _)
      rw [← e9]
      clear e9
      have r0 : W9.cell? ⟨W.heap.size, 0, none⟩ = some (.int .i64 c) := Z9.cell 0 rfl
      have r1 : W9.cell? ⟨W.heap.size, 1, none⟩ = some (.int .i64 y) := Z9.cell 1 rfl
      have r2 : W9.cell? ⟨W.heap.size, 2, none⟩ = some (.int .i64 (1 + m)) := Z9.cell 2 rfl
      have r3 : W9.cell? ⟨W.heap.size, 3, none⟩ = some (.int .i64 z) := Z9.cell 3 rfl
      refine bodyPost_ret (by simp [results, Tryz.results64, go_sem, r0, r1, r2, r3]; try rfl) rfl ?_
      exact ⟨_, _, _, _, rfl, K9, G9⟩
    by_cases e3 : s = 3
    · subst e3
      go_wp2_with fail
      refine (l01PickInt n0 _ a len cap B V1.heap.size 2 2 (fun j => ([2, -1] : List Int).getD j 0) hlen (by omega) (by omega) (by rw [size_new]; omega) (Nat.ne_of_gt HK1.out.hi) (fun j hj => alloc_ints V1 [2, -1] _ j hj) (HK1.out.alloc _)).mono ?_
      rintro e V2 ⟨j, hj, rfl, hC, hG⟩
      have HK2 : Hid (Cur n0 V2 a len cap B) := hC
      have HG2 : Hid (W.grownBy V2 (some B)) := grown_trans (grown_alloc HG1.out _) hG
      have HZ2 : Hid (Blk V2 W.heap.size #[.int .i64 0, .int .i64 0, .int .i64 0, .int .i64 0] 36) := (HZ1.out.alloc _).grown hG (by omega)
      have HD2 : Hid (Blk V2 W3.heap.size #[.int .i64 c, .int .i64 y, .int .i64 (1 + m), .int .i64 (1 + d)] 36) := (HD1.out.alloc _).grown hG (by omega)
      clear hC hG
      generalize ([2, -1] : List Int).getD j 0 = z at *
      have p0 : V2.cell? ⟨W3.heap.size, 0, none⟩ = some (.int .i64 c) := (HD2.out).cell 0 rfl
      have p1 : V2.cell? ⟨W3.heap.size, 1, none⟩ = some (.int .i64 y) := (HD2.out).cell 1 rfl
      have p2 : V2.cell? ⟨W3.heap.size, 2, none⟩ = some (.int .i64 (1 + m)) := (HD2.out).cell 2 rfl
      have p3 : V2.cell? ⟨W3.heap.size, 3, none⟩ = some (.int .i64 (1 + d)) := (HD2.out).cell 3 rfl
      have f0 : V2.frozen? ⟨W3.heap.size, 0, none⟩ = false := (HD2.out).thaw 0
      have q0 : V2.cell? ⟨W.heap.size, 0, none⟩ = some (.int .i64 0) := (HZ2.out).cell 0 rfl
      have q1 : V2.cell? ⟨W.heap.size, 1, none⟩ = some (.int .i64 0) := (HZ2.out).cell 1 rfl
      have q2 : V2.cell? ⟨W.heap.size, 2, none⟩ = some (.int .i64 0) := (HZ2.out).cell 2 rfl
      have q3 : V2.cell? ⟨W.heap.size, 3, none⟩ = some (.int .i64 0) := (HZ2.out).cell 3 rfl
      have g0 : V2.frozen? ⟨W.heap.size, 0, none⟩ = false := (HZ2.out).thaw 0
      have g1 : V2.frozen? ⟨W.heap.size, 1, none⟩ = false := (HZ2.out).thaw 1
      have g2 : V2.frozen? ⟨W.heap.size, 2, none⟩ = false := (HZ2.out).thaw 2
      have g3 : V2.frozen? ⟨W.heap.size, 3, none⟩ = false := (HZ2.out).thaw 3
      go_wp2_with fail
      obtain ⟨W9, e9⟩ : ∃ W9, W9 = (((((V2.setCell ⟨W3.heap.size, 0, none⟩ (.int .i64 z)).setCell ⟨W.heap.size, 0, none⟩ (.int .i64 z)).setCell ⟨W.heap.size, 1, none⟩ (.int .i64 y)).setCell ⟨W.heap.size, 2, none⟩ (.int .i64 (1 + m))).setCell ⟨W.heap.size, 3, none⟩ (.int .i64 (1 + d))) := ⟨_, rfl⟩
      have Z9 : Blk W9 W.heap.size #[.int .i64 z, .int .i64 y, .int .i64 (1 + m), .int .i64 (1 + d)] 36 := by rw [e9]; exact ((((HZ2.out.other (by omega)).set 0 _).set 1 _).set 2 _).set 3 _
      have K9 : Cur n0 W9 a len cap B := by rw [e9]; exact ((((HK2.out.store _ (by omega) (by omega)).store _ (by omega) (by omega)).store _ (by omega) (by omega)).store _ (by omega) (by omega)).store _ (by omega) (by omega)
      have G9 : W.grownBy W9 (some B) := by rw [e9]; exact grown_store (grown_store (grown_store (grown_store (grown_store HG2.out _ (by omega)) _ (Nat.le_refl _)) _ (Nat.le_refl _)) _ (Nat.le_refl _)) _ (Nat.le_refl _)
      rw [← e9]
      clear e9
      have r0 : W9.cell? ⟨W.heap.size, 0, none⟩ = some (.int .i64 z) := Z9.cell 0 rfl
      have r1 : W9.cell? ⟨W.heap.size, 1, none⟩ = some (.int .i64 y) := Z9.cell 1 rfl
      have r2 : W9.cell? ⟨W.heap.size, 2, none⟩ = some (.int .i64 (1 + m)) := Z9.cell 2 rfl
      have r3 : W9.cell? ⟨W.heap.size, 3, none⟩ = some (.int .i64 (1 + d)) := Z9.cell 3 rfl
      refine bodyPost_ret (by simp [results, Tryz.results64, go_sem, r0, r1, r2, r3]; try rfl) rfl ?_
      exact ⟨_, _, _, _, rfl, K9, G9⟩
    have p0 : V1.cell? ⟨W3.heap.size, 0, none⟩ = some (.int .i64 c) := (HD1.out).cell 0 rfl
    have p1 : V1.cell? ⟨W3.heap.size, 1, none⟩ = some (.int .i64 y) := (HD1.out).cell 1 rfl
    have p2 : V1.cell? ⟨W3.heap.size, 2, none⟩ = some (.int .i64 (1 + m)) := (HD1.out).cell 2 rfl
    have p3 : V1.cell? ⟨W3.heap.size, 3, none⟩ = some (.int .i64 (1 + d)) := (HD1.out).cell 3 rfl
    have q0 : V1.cell? ⟨W.heap.size, 0, none⟩ = some (.int .i64 0) := (HZ1.out).cell 0 rfl
    have q1 : V1.cell? ⟨W.heap.size, 1, none⟩ = some (.int .i64 0) := (HZ1.out).cell 1 rfl
    have q2 : V1.cell? ⟨W.heap.size, 2, none⟩ = some (.int .i64 0) := (HZ1.out).cell 2 rfl
    have q3 : V1.cell? ⟨W.heap.size, 3, none⟩ = some (.int .i64 0) := (HZ1.out).cell 3 rfl
    have g0 : V1.frozen? ⟨W.heap.size, 0, none⟩ = false := (HZ1.out).thaw 0
    have g1 : V1.frozen? ⟨W.heap.size, 1, none⟩ = false := (HZ1.out).thaw 1
    have g2 : V1.frozen? ⟨W.heap.size, 2, none⟩ = false := (HZ1.out).thaw 2
    have g3 : V1.frozen? ⟨W.heap.size, 3, none⟩ = false := (HZ1.out).thaw 3
    go_wp2_with fail
    obtain ⟨W9, e9⟩ : ∃ W9, W9 = ((((V1.setCell ⟨W.heap.size, 0, none⟩ (.int .i64 c)).setCell ⟨W.heap.size, 1, none⟩ (.int .i64 y)).setCell ⟨W.heap.size, 2, none⟩ (.int .i64 (1 + m))).setCell ⟨W.heap.size, 3, none⟩ (.int .i64 (1 + d))) := ⟨_, rfl⟩
    have Z9 : Blk W9 W.heap.size #[.int .i64 c, .int .i64 y, .int .i64 (1 + m), .int .i64 (1 + d)] 36 := by rw [e9]; exact ((((HZ1.out).set 0 _).set 1 _).set 2 _).set 3 _
    have K9 : Cur n0 W9 a len cap B := by rw [e9]; exact ((((HK1.out).store _ (by omega) (by omega)).store _ (by omega) (by omega)).store _ (by omega) (by omega)).store _ (by omega) (by omega)
    have G9 : W.grownBy W9 (some B) := by rw [e9]; exact grown_store (grown_store (grown_store (grown_store (HG1.out) _ (Nat.le_refl _)) _ (Nat.le_refl _)) _ (Nat.le_refl _)) _ (Nat.le_refl _)
    rw [← e9]
    clear e9
    have r0 : W9.cell? ⟨W.heap.size, 0, none⟩ = some (.int .i64 c) := Z9.cell 0 rfl
    have r1 : W9.cell? ⟨W.heap.size, 1, none⟩ = some (.int .i64 y) := Z9.cell 1 rfl
    have r2 : W9.cell? ⟨W.heap.size, 2, none⟩ = some (.int .i64 (1 + m)) := Z9.cell 2 rfl
    have r3 : W9.cell? ⟨W.heap.size, 3, none⟩ = some (.int .i64 (1 + d)) := Z9.cell 3 rfl
    refine bodyPost_ret (by simp [results, Tryz.results64, go_sem, r0, r1, r2, r3]; try rfl) rfl ?_
    exact ⟨_, _, _, _, rfl, K9, G9⟩
  · have u2 := HDv.out.cell 2 rfl
    have v2 := HDv.out.thaw 2
    go_wp2_with fail
    refine (l01Below n0 _ a len cap B 3 hlen (by omega) (HKv.out.store _ (by omega) (by omega))).mono ?_
    rintro e W8 ⟨d2, rfl, hd2, hd3, hC, hG⟩
    have HK8 : Hid (Cur n0 W8 a len cap B) := hC
    have HG8 : Hid (W.grownBy W8 (some B)) := grown_trans (grown_store HGv.out _ (by omega)) hG
    have HZ8 : Hid (Blk W8 W.heap.size #[.int .i64 0, .int .i64 0, .int .i64 0, .int .i64 0] 36) := (HZv.out.other (by omega)).grown hG (by omega)
    have HD8 : Hid (Blk W8 W3.heap.size #[.int .i64 c, .int .i64 y, .int .i64 2, .int .i64 (1 + d)] 36) := (HDv.out.set 2 _).grown hG (by omega)
    clear hC hG u2 v2 HKv HGv HZv HDv
    have u3 := HD8.out.cell 3 rfl
    have v3 := HD8.out.thaw 3
    have HKv : Hid (Cur n0 (W8.setCell ⟨W3.heap.size, 3, none⟩ (.int .i64 (28 + d2))) a len cap B) := HK8.out.store _ (by omega) (by omega)
    have HGv : Hid (W.grownBy (W8.setCell ⟨W3.heap.size, 3, none⟩ (.int .i64 (28 + d2))) (some B)) := grown_store HG8.out _ (by omega)
    have HZv : Hid (Blk (W8.setCell ⟨W3.heap.size, 3, none⟩ (.int .i64 (28 + d2))) W.heap.size #[.int .i64 0, .int .i64 0, .int .i64 0, .int .i64 0] 36) := HZ8.out.other (by omega)
    have HDv : Hid (Blk (W8.setCell ⟨W3.heap.size, 3, none⟩ (.int .i64 (28 + d2))) W3.heap.size #[.int .i64 c, .int .i64 y, .int .i64 2, .int .i64 (28 + d2)] 36) := HD8.out.set 3 _
    go_wp2_with fail
    refine (l01Below n0 _ a len cap B 24 hlen (by omega) HKv.out).mono ?_
    rintro e V1 ⟨s, rfl, s0, s1, hC, hG⟩
    have HK1 : Hid (Cur n0 V1 a len cap B) := hC
    have HG1 : Hid (W.grownBy V1 (some B)) := grown_trans HGv.out hG
    have HZ1 : Hid (Blk V1 W.heap.size #[.int .i64 0, .int .i64 0, .int .i64 0, .int .i64 0] 36) := HZv.out.grown hG (by omega)
    have HD1 : Hid (Blk V1 W3.heap.size #[.int .i64 c, .int .i64 y, .int .i64 2, .int .i64 (28 + d2)] 36) := HDv.out.grown hG (by omega)
    clear hC hG
    by_cases e0 : s = 0
    · subst e0
      go_wp2_with fail
      refine (l01PickInt n0 _ a len cap B V1.heap.size 4 4 (fun j => ([0, 3001, -1, 9223372036854775807] : List Int).getD j 0) hlen (by omega) (by omega) (by rw [size_new]; omega) (Nat.ne_of_gt HK1.out.hi) (fun j hj => alloc_ints V1 [0, 3001, -1, 9223372036854775807] _ j hj) (HK1.out.alloc _)).mono ?_
      rintro e V2 ⟨j, hj, rfl, hC, hG⟩
      have HK2 : Hid (Cur n0 V2 a len cap B) := hC
      have HG2 : Hid (W.grownBy V2 (some B)) := grown_trans (grown_alloc HG1.out _) hG
      have HZ2 : Hid (Blk V2 W.heap.size #[.int .i64 0, .int .i64 0, .int .i64 0, .int .i64 0] 36) := (HZ1.out.alloc _).grown hG (by omega)
      have HD2 : Hid (Blk V2 W3.heap.size #[.int .i64 c, .int .i64 y, .int .i64 2, .int .i64 (28 + d2)] 36) := (HD1.out.alloc _).grown hG (by omega)
      clear hC hG
      generalize ([0, 3001, -1, 9223372036854775807] : List Int).getD j 0 = z at *
      have p0 : V2.cell? ⟨W3.heap.size, 0, none⟩ = some (.int .i64 c) := (HD2.out).cell 0 rfl
      have p1 : V2.cell? ⟨W3.heap.size, 1, none⟩ = some (.int .i64 y) := (HD2.out).cell 1 rfl
      have p2 : V2.cell? ⟨W3.heap.size, 2, none⟩ = some (.int .i64 2) := (HD2.out).cell 2 rfl
      have p3 : V2.cell? ⟨W3.heap.size, 3, none⟩ = some (.int .i64 (28 + d2)) := (HD2.out).cell 3 rfl
      have f1 : V2.frozen? ⟨W3.heap.size, 1, none⟩ = false := (HD2.out).thaw 1
      have q0 : V2.cell? ⟨W.heap.size, 0, none⟩ = some (.int .i64 0) := (HZ2.out).cell 0 rfl
      have q1 : V2.cell? ⟨W.heap.size, 1, none⟩ = some (.int .i64 0) := (HZ2.out).cell 1 rfl
      have q2 : V2.cell? ⟨W.heap.size, 2, none⟩ = some (.int .i64 0) := (HZ2.out).cell 2 rfl
      have q3 : V2.cell? ⟨W.heap.size, 3, none⟩ = some (.int .i64 0) := (HZ2.out).cell 3 rfl
      have g0 : V2.frozen? ⟨W.heap.size, 0, none⟩ = false := (HZ2.out).thaw 0
      have g1 : V2.frozen? ⟨W.heap.size, 1, none⟩ = false := (HZ2.out).thaw 1
      have g2 : V2.frozen? ⟨W.heap.size, 2, none⟩ = false := (HZ2.out).thaw 2
      have g3 : V2.frozen? ⟨W.heap.size, 3, none⟩ = false := (HZ2.out).thaw 3
      go_wp2_with fail
      obtain ⟨W9, e9⟩ : ∃ W9, W9 = (((((V2.setCell ⟨W3.heap.size, 1, none⟩ (.int .i64 z)).setCell ⟨W.heap.size, 0, none⟩ (.int .i64 c)).setCell ⟨W.heap.size, 1, none⟩ (.int .i64 z)).setCell ⟨W.heap.size, 2, none⟩ (.int .i64 2)).setCell ⟨W.heap.size, 3, none⟩ (.int .i64 (28 + d2))) := ⟨_, rfl⟩
      have Z9 : Blk W9 W.heap.size #[.int .i64 c, .int .i64 z, .int .i64 2, .int .i64 (28 + d2)] 36 := by rw [e9]; exact ((((HZ2.out.other (by omega)).set 0 _).set 1 _).set 2 _).set 3 _
      have K9 : Cur n0 W9 a len cap B := by rw [e9]; exact ((((HK2.out.store _ (by omega) (by omega)).store _ (by omega) (by omega)).store _ (by omega) (by omega)).store _ (by omega) (by omega)).store _ (by omega) (by omega)
      have G9 : W.grownBy W9 (some B) := by rw [e9]; exact grown_store (grown_store (grown_store (grown_store (grown_store HG2.out _ (by omega)) _ (Nat.le_refl _)) _ (Nat.le_refl _)) _ (Nat.le_refl _)) _ (Nat.le_refl _)
      rw [← e9]
      clear e9
      have r0 : W9.cell? ⟨W.heap.size, 0, none⟩ = some (.int .i64 c) := Z9.cell 0 rfl
      have r1 : W9.cell? ⟨W.heap.size, 1, none⟩ = some (.int .i64 z) := Z9.cell 1 rfl
      have r2 : W9.cell? ⟨W.heap.size, 2, none⟩ = some (.int .i64 2) := Z9.cell 2 rfl
      have r3 : W9.cell? ⟨W.heap.size, 3, none⟩ = some (.int .i64 (28 + d2)) := Z9.cell 3 rfl
      refine bodyPost_ret (by simp [results, Tryz.results64, go_sem, r0, r1, r2, r3]; try rfl) rfl ?_
      exact ⟨_, _, _, _, rfl, K9, G9⟩
    by_cases e1 : s = 1
    · subst e1
      go_wp2_with fail
      refine (l01PickInt n0 _ a len cap B V1.heap.size 3 3 (fun j => ([0, 13, -1] : List Int).getD j 0) hlen (by omega) (by omega) (by rw [size_new]; omega) (Nat.ne_of_gt HK1.out.hi) (fun j hj => alloc_ints V1 [0, 13, -1] _ j hj) (HK1.out.alloc _)).mono ?_
      rintro e V2 ⟨j, hj, rfl, hC, hG⟩
      have HK2 : Hid (Cur n0 V2 a len cap B) := hC
      have HG2 : Hid (W.grownBy V2 (some B)) := grown_trans (grown_alloc HG1.out _) hG
      have HZ2 : Hid (Blk V2 W.heap.size #[.int .i64 0, .int .i64 0, .int .i64 0, .int .i64 0] 36) := (HZ1.out.alloc _).grown hG (by omega)
      have HD2 : Hid (Blk V2 W3.heap.size #[.int .i64 c, .int .i64 y, .int .i64 2, .int .i64 (28 + d2)] 36) := (HD1.out.alloc _).grown hG (by omega)
      clear hC hG
      generalize ([0, 13, -1] : List Int).getD j 0 = z at *
      have p0 : V2.cell? ⟨W3.heap.size, 0, none⟩ = some (.int .i64 c) := (HD2.out).cell 0 rfl
      have p1 : V2.cell? ⟨W3.heap.size, 1, none⟩ = some (.int .i64 y) := (HD2.out).cell 1 rfl
      have p2 : V2.cell? ⟨W3.heap.size, 2, none⟩ = some (.int .i64 2) := (HD2.out).cell 2 rfl
      have p3 : V2.cell? ⟨W3.heap.size, 3, none⟩ = some (.int .i64 (28 + d2)) := (HD2.out).cell 3 rfl
      have f2 : V2.frozen? ⟨W3.heap.size, 2, none⟩ = false := (HD2.out).thaw 2
      have q0 : V2.cell? ⟨W.heap.size, 0, none⟩ = some (.int .i64 0) := (HZ2.out).cell 0 rfl
      have q1 : V2.cell? ⟨W.heap.size, 1, none⟩ = some (.int .i64 0) := (HZ2.out).cell 1 rfl
      have q2 : V2.cell? ⟨W.heap.size, 2, none⟩ = some (.int .i64 0) := (HZ2.out).cell 2 rfl
      have q3 : V2.cell? ⟨W.heap.size, 3, none⟩ = some (.int .i64 0) := (HZ2.out).cell 3 rfl
      have g0 : V2.frozen? ⟨W.heap.size, 0, none⟩ = false := (HZ2.out).thaw 0
      have g1 : V2.frozen? ⟨W.heap.size, 1, none⟩ = false := (HZ2.out).thaw 1
      have g2 : V2.frozen? ⟨W.heap.size, 2, none⟩ = false := (HZ2.out).thaw 2
      have g3 : V2.frozen? ⟨W.heap.size, 3, none⟩ = false := (HZ2.out).thaw 3
      go_wp2_with fail
      obtain ⟨W9, e9⟩ : ∃ W9, W9 = (((((V2.setCell ⟨W3.heap.size, 2, none⟩ (.int .i64 z)).setCell ⟨W.heap.size, 0, none⟩ (.int .i64 c)).setCell ⟨W.heap.size, 1, none⟩ (.int .i64 y)).setCell ⟨W.heap.size, 2, none⟩ (.int .i64 z)).setCell ⟨W.heap.size, 3, none⟩ (.int .i64 (28 + d2))) := ⟨_, rfl⟩
      have Z9 : Blk W9 W.heap.size #[.int .i64 c, .int .i64 y, .int .i64 z, .int .i64 (28 + d2)] 36 := by rw [e9]; exact ((((HZ2.out.other (by omega)).set 0 _).set 1 _).set 2 _).set 3 _
      have K9 : Cur n0 W9 a len cap B := by rw [e9]; exact ((((HK2.out.store _ (by omega) (by omega)).store _ (by omega) (by omega)).store _ (by omega) (by omega)).store _ (by omega) (by omega)).store _ (by omega) (by omega)
      have G9 : W.grownBy W9 (some B) := by rw [e9]; exact grown_store (grown_store (grown_store (grown_store (grown_store HG2.out _ (by omega)) _ (Nat.le_refl _)) _ (Nat.le_refl _)) _ (Nat.le_refl _)) _ (Nat.le_refl _)
      rw [← e9]
      clear e9
      have r0 : W9.cell? ⟨W.heap.size, 0, none⟩ = some (.int .i64 c) := Z9.cell 0 rfl
      have r1 : W9.cell? ⟨W.heap.size, 1, none⟩ = some (.int .i64 y) := Z9.cell 1 rfl
      have r2 : W9.cell? ⟨W.heap.size, 2, none⟩ = some (.int .i64 z) := Z9.cell 2 rfl
      have r3 : W9.cell? ⟨W.heap.size, 3, none⟩ = some (.int .i64 (28 + d2)) := Z9.cell 3 rfl
      refine bodyPost_ret (by simp [results, Tryz.results64, go_sem, r0, r1, r2, r3]; try rfl) rfl ?_
      exact ⟨_, _, _, _, rfl, K9, G9⟩
    by_cases e2 : s = 2
    · subst e2
      go_wp2_with fail
      refine (l01PickInt n0 _ a len cap B V1.heap.size 3 3 (fun j => ([0, 32, -1] : List Int).getD j 0) hlen (by omega) (by omega) (by rw [size_new]; omega) (Nat.ne_of_gt HK1.out.hi) (fun j hj => alloc_ints V1 [0, 32, -1] _ j hj) (HK1.out.alloc _)).mono ?_
      rintro e V2 ⟨j, hj, rfl, hC, hG⟩
      have HK2 : Hid (Cur n0 V2 a len cap B) := hC
      have HG2 : Hid (W.grownBy V2 (some B)) := grown_trans (grown_alloc HG1.out _) hG
      have HZ2 : Hid (Blk V2 W.heap.size #[.int .i64 0, .int .i64 0, .int .i64 0, .int .i64 0] 36) := (HZ1.out.alloc _).grown hG (by omega)
      have HD2 : Hid (Blk V2 W3.heap.size #[.int .i64 c, .int .i64 y, .int .i64 2, .int .i64 (28 + d2)] 36) := (HD1.out.alloc _).grown hG (by omega)
      clear hC hG
      generalize ([0, 32, -1] : List Int).getD j 0 = z at *
      have p0 : V2.cell? ⟨W3.heap.size, 0, none⟩ = some (.int .i64 c) := (HD2.out).cell 0 rfl
      have p1 : V2.cell? ⟨W3.heap.size, 1, none⟩ = some (.int .i64 y) := (HD2.out).cell 1 rfl
      have p2 : V2.cell? ⟨W3.heap.size, 2, none⟩ = some (.int .i64 2) := (HD2.out).cell 2 rfl
      have p3 : V2.cell? ⟨W3.heap.size, 3, none⟩ = some (.int .i64 (28 + d2)) := (HD2.out).cell 3 rfl
      have f3 : V2.frozen? ⟨W3.heap.size, 3, none⟩ = false := (HD2.out).thaw 3
      have q0 : V2.cell? ⟨W.heap.size, 0, none⟩ = some (.int .i64 0) := (HZ2.out).cell 0 rfl
      have q1 : V2.cell? ⟨W.heap.size, 1, none⟩ = some (.int .i64 0) := (HZ2.out).cell 1 rfl
      have q2 : V2.cell? ⟨W.heap.size, 2, none⟩ = some (.int .i64 0) := (HZ2.out).cell 2 rfl
      have q3 : V2.cell? ⟨W.heap.size, 3, none⟩ = some (.int .i64 0) := (HZ2.out).cell 3 rfl
      have g0 : V2.frozen? ⟨W.heap.size, 0, none⟩ = false := (HZ2.out).thaw 0
      have g1 : V2.frozen? ⟨W.heap.size, 1, none⟩ = false := (HZ2.out).thaw 1
      have g2 : V2.frozen? ⟨W.heap.size, 2, none⟩ = false := (HZ2.out).thaw 2
      have g3 : V2.frozen? ⟨W.heap.size, 3, none⟩ = false := (HZ2.out).thaw 3
      go_wp2_with fail
      obtain ⟨W9, e9⟩ : ∃ W9, W9 = (((((V2.setCell ⟨W3.heap.size, 3, none⟩ (.int .i64 z)).setCell ⟨W.heap.size, 0, none⟩ (.int .i64 c)).setCell ⟨W.heap.size, 1, none⟩ (.int .i64 y)).setCell ⟨W.heap.size, 2, none⟩ (.int .i64 2)).setCell ⟨W.heap.size, 3, none⟩ (.int .i64 z)) := ⟨_, rfl⟩
      have Z9 : Blk W9 W.heap.size #[.int .i64 c, .int .i64 y, .int .i64 2, .int .i64 z] 36 := by rw [e9]; exact ((((HZ2.out.other (by omega)).set 0 _).set 1 _).set 2 _).set 3 _
      have K9 : Cur n0 W9 a len cap B := by rw [e9]; exact ((((HK2.out.store _ (by omega) (by omega)).store _ (by omega) (by omega)).store _ (by omega) (by omega)).store _ (by omega) (by omega)).store _ (by omega) (by omega)
      have G9 : W.grownBy W9 (some B) := by rw [e9]; exact grown_store (grown_store (grown_store (grown_store (grown_store HG2.out _ (by omega)) _ (Nat.le_refl _)) _ (Nat.le_refl _)) _ (Nat.le_refl _)) _ (Nat.le_refl _)
      rw [← e9]
      clear e9
      have r0 : W9.cell? ⟨W.heap.size, 0, none⟩ = some (.int .i64 c) := Z9.cell 0 rfl
      have r1 : W9.cell? ⟨W.heap.size, 1, none⟩ = some (.int .i64 y) := Z9.cell 1 rfl
      have r2 : W9.cell? ⟨W.heap.size, 2, none⟩ = some (.int .i64 2) := Z9.cell 2 rfl
      have r3 : W9.cell? ⟨W.heap.size, 3, none⟩ = some (.int .i64 z) := Z9.cell 3 rfl
      refine bodyPost_ret (by simp [results, Tryz.results64, go_sem, r0, r1, r2, r3]; try rfl) rfl ?_
      exact ⟨_, _, _, _, rfl, K9, G9⟩
    by_cases e3 : s = 3
    · subst e3
      go_wp2_with fail
      refine (l01PickInt n0 _ a len cap B V1.heap.size 2 2 (fun j => ([2, -1] : List Int).getD j 0) hlen (by omega) (by omega) (by rw [size_new]; omega) (Nat.ne_of_gt HK1.out.hi) (fun j hj => alloc_ints V1 [2, -1] _ j hj) (HK1.out.alloc _)).mono ?_
      rintro e V2 ⟨j, hj, rfl, hC, hG⟩
      have HK2 : Hid (Cur n0 V2 a len cap B) := hC
      have HG2 : Hid (W.grownBy V2 (some B)) := grown_trans (grown_alloc HG1.out _) hG
      have HZ2 : Hid (Blk V2 W.heap.size #[.int .i64 0, .int .i64 0, .int .i64 0, .int .i64 0] 36) := (HZ1.out.alloc _).grown hG (by omega)
      have HD2 : Hid (Blk V2 W3.heap.size #[.int .i64 c, .int .i64 y, .int .i64 2, .int .i64 (28 + d2)] 36) := (HD1.out.alloc _).grown hG (by omega)
      clear hC hG
      generalize ([2, -1] : List Int).getD j 0 = z at *
      have p0 : V2.cell? ⟨W3.heap.size, 0, none⟩ = some (.int .i64 c) := (HD2.out).cell 0 rfl
      have p1 : V2.cell? ⟨W3.heap.size, 1, none⟩ = some (.int .i64 y) := (HD2.out).cell 1 rfl
      have p2 : V2.cell? ⟨W3.heap.size, 2, none⟩ = some (.int .i64 2) := (HD2.out).cell 2 rfl
      have p3 : V2.cell? ⟨W3.heap.size, 3, none⟩ = some (.int .i64 (28 + d2)) := (HD2.out).cell 3 rfl
      have f0 : V2.frozen? ⟨W3.heap.size, 0, none⟩ = false := (HD2.out).thaw 0
      have q0 : V2.cell? ⟨W.heap.size, 0, none⟩ = some (.int .i64 0) := (HZ2.out).cell 0 rfl
      have q1 : V2.cell? ⟨W.heap.size, 1, none⟩ = some (.int .i64 0) := (HZ2.out).cell 1 rfl
      have q2 : V2.cell? ⟨W.heap.size, 2, none⟩ = some (.int .i64 0) := (HZ2.out).cell 2 rfl
      have q3 : V2.cell? ⟨W.heap.size, 3, none⟩ = some (.int .i64 0) := (HZ2.out).cell 3 rfl
      have g0 : V2.frozen? ⟨W.heap.size, 0, none⟩ = false := (HZ2.out).thaw 0
      have g1 : V2.frozen? ⟨W.heap.size, 1, none⟩ = false := (HZ2.out).thaw 1
      have g2 : V2.frozen? ⟨W.heap.size, 2, none⟩ = false := (HZ2.out).thaw 2
      have g3 : V2.frozen? ⟨W.heap.size, 3, none⟩ = false := (HZ2.out).thaw 3
      go_wp2_with fail
      obtain ⟨W9, e9⟩ : ∃ W9, W9 = (((((V2.setCell ⟨W3.heap.size, 0, none⟩ (.int .i64 z)).setCell ⟨W.heap.size, 0, none⟩ (.int .i64 z)).setCell ⟨W.heap.size, 1, none⟩ (.int .i64 y)).setCell ⟨W.heap.size, 2, none⟩ (.int .i64 2)).setCell ⟨W.heap.size, 3, none⟩ (.int .i64 (28 + d2))) := ⟨_, rfl⟩
      have Z9 : Blk W9 W.heap.size #[.int .i64 z, .int .i64 y, .int .i64 2, .int .i64 (28 + d2)] 36 := by rw [e9]; exact ((((HZ2.out.other (by omega)).set 0 _).set 1 _).set 2 _).set 3 _
      have K9 : Cur n0 W9 a len cap B := by rw [e9]; exact ((((HK2.out.store _ (by omega) (by omega)).store _ (by omega) (by omega)).store _ (by omega) (by omega)).store _ (by omega) (by omega)).store _ (by omega) (by omega)
      have G9 : W.grownBy W9 (some B) := by rw [e9]; exact grown_store (grown_store (grown_store (grown_store (grown_store HG2.out _ (by omega)) _ (Nat.le_refl _)) _ (Nat.le_refl _)) _ (Nat.le_refl _)) _ (Nat.le_refl _)
      rw [← e9]
      clear e9
      have r0 : W9.cell? ⟨W.heap.size, 0, none⟩ = some (.int .i64 z) := Z9.cell 0 rfl
      have r1 : W9.cell? ⟨W.heap.size, 1, none⟩ = some (.int .i64 y) := Z9.cell 1 rfl
      have r2 : W9.cell? ⟨W.heap.size, 2, none⟩ = some (.int .i64 2) := Z9.cell 2 rfl
      have r3 : W9.cell? ⟨W.heap.size, 3, none⟩ = some (.int .i64 (28 + d2)) := Z9.cell 3 rfl
      refine bodyPost_ret (by simp [results, Tryz.results64, go_sem, r0, r1, r2, r3]; try rfl) rfl ?_
      exact ⟨_, _, _, _, rfl, K9, G9⟩
    have p0 : V1.cell? ⟨W3.heap.size, 0, none⟩ = some (.int .i64 c) := (HD1.out).cell 0 rfl
    have p1 : V1.cell? ⟨W3.heap.size, 1, none⟩ = some (.int .i64 y) := (HD1.out).cell 1 rfl
    have p2 : V1.cell? ⟨W3.heap.size, 2, none⟩ = some (.int .i64 2) := (HD1.out).cell 2 rfl
    have p3 : V1.cell? ⟨W3.heap.size, 3, none⟩ = some (.int .i64 (28 + d2)) := (HD1.out).cell 3 rfl
    have q0 : V1.cell? ⟨W.heap.size, 0, none⟩ = some (.int .i64 0) := (HZ1.out).cell 0 rfl
    have q1 : V1.cell? ⟨W.heap.size, 1, none⟩ = some (.int .i64 0) := (HZ1.out).cell 1 rfl
    have q2 : V1.cell? ⟨W.heap.size, 2, none⟩ = some (.int .i64 0) := (HZ1.out).cell 2 rfl
    have q3 : V1.cell? ⟨W.heap.size, 3, none⟩ = some (.int .i64 0) := (HZ1.out).cell 3 rfl
    have g0 : V1.frozen? ⟨W.heap.size, 0, none⟩ = false := (HZ1.out).thaw 0
    have g1 : V1.frozen? ⟨W.heap.size, 1, none⟩ = false := (HZ1.out).thaw 1
    have g2 : V1.frozen? ⟨W.heap.size, 2, none⟩ = false := (HZ1.out).thaw 2
    have g3 : V1.frozen? ⟨W.heap.size, 3, none⟩ = false := (HZ1.out).thaw 3
    go_wp2_with fail
    obtain ⟨W9, e9⟩ : ∃ W9, W9 = ((((V1.setCell ⟨W.heap.size, 0, none⟩ (.int .i64 c)).setCell ⟨W.heap.size, 1, none⟩ (.int .i64 y)).setCell ⟨W.heap.size, 2, none⟩ (.int .i64 2)).setCell ⟨W.heap.size, 3, none⟩ (.int .i64 (28 + d2))) := ⟨_, rfl⟩
    have Z9 : Blk W9 W.heap.size #[.int .i64 c, .int .i64 y, .int .i64 2, .int .i64 (28 + d2)] 36 := by rw [e9]; exact ((((HZ1.out).set 0 _).set 1 _).set 2 _).set 3 _
    have K9 : Cur n0 W9 a len cap B := by rw [e9]; exact ((((HK1.out).store _ (by omega) (by omega)).store _ (by omega) (by omega)).store _ (by omega) (by omega)).store _ (by omega) (by omega)
    have G9 : W.grownBy W9 (some B) := by rw [e9]; exact grown_store (grown_store (grown_store (grown_store (HG1.out) _ (Nat.le_refl _)) _ (Nat.le_refl _)) _ (Nat.le_refl _)) _ (Nat.le_refl _)
    rw [← e9]
    clear e9
    have r0 : W9.cell? ⟨W.heap.size, 0, none⟩ = some (.int .i64 c) := Z9.cell 0 rfl
    have r1 : W9.cell? ⟨W.heap.size, 1, none⟩ = some (.int .i64 y) := Z9.cell 1 rfl
    have r2 : W9.cell? ⟨W.heap.size, 2, none⟩ = some (.int .i64 2) := Z9.cell 2 rfl
    have r3 : W9.cell? ⟨W.heap.size, 3, none⟩ = some (.int .i64 (28 + d2)) := Z9.cell 3 rfl
    refine bodyPost_ret (by simp [results, Tryz.results64, go_sem, r0, r1, r2, r3]; try rfl) rfl ?_
    exact ⟨_, _, _, _, rfl, K9, G9⟩
end Go.Proofs.YtchhdoipkimbgaaGreatDoor.ctr
